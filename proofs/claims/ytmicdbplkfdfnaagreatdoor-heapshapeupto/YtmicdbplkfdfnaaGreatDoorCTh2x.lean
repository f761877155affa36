/- Whole numbers as floating-point numbers: converted, added, held against each other, the greater. -/
import Derived.Test.YtmicdbplkfdfnaaGreatDoorCFl4x
import Derived.Test.YtmicdbplkfdfnaaGreatDoorCTc1
import Derived.Test.YtmicdbplkfdfnaaGreatDoorCHn6x
import Derived.Test.YtmicdbplkfdfnaaGreatDoorCHo3x
set_option linter.unusedVariables false
namespace Go.Proofs.YtmicdbplkfdfnaaGreatDoor
open Ieee Go.RowKit Go.Shelf Fl

/-- The word of a whole number. -/
def wN (n : Nat) : Nat := double.nearest false n 0
theorem wN_zero : wN 0 = 0 := by unfold wN; rw [nearest_zero, word_wd, wd_false]
theorem wN_norm {n : Nat} (h0 : n ≠ 0) (h : n < 9007199254740992) : ∃ M L, Norm n M L ∧ L ≤ 52 ∧ wN n = rungI M L := by
  obtain ⟨M, L, hN, hL⟩ := norm_small h0 h
  refine ⟨M, L, hN, hL, ?_⟩
  unfold wN
  rw [nearest_whole hN (by omega), wd_false]
theorem wN_fin {n : Nat} (h : n < 9007199254740992) : wN n < 9218868437227405312 := by
  by_cases h0 : n = 0
  · rw [h0, wN_zero]; omega
  · obtain ⟨M, L, hN, hL, e⟩ := wN_norm h0 h
    rw [e]
    exact rungI_lt hN.M_lt (by omega)
theorem wN_val {n : Nat} (h : n < 9007199254740992) (A : Nat) (hA : A = 1074) : valR (wN n) = n * 2 ^ A := by
  by_cases h0 : n = 0
  · rw [h0, wN_zero, (valR_zero (r := 0)).2 rfl, Nat.zero_mul]
  · obtain ⟨M, L, hN, hL, e⟩ := wN_norm h0 h
    rw [e]
    unfold valR
    rw [magR_I hN.M_le hN.M_lt, expR_I hN.M_le hN.M_lt]
    obtain ⟨B, hB⟩ : ∃ B, B = 1022 := ⟨_, rfl⟩
    rw [← hB, pow_split, ← Nat.mul_assoc, hN.1, Nat.mul_assoc, ← pow_split, show 52 + B = A by omega]
theorem wN_lt {a b : Nat} (ha : a < 9007199254740992) (hb : b < 9007199254740992) : wN a < wN b ↔ a < b := by
  obtain ⟨A, hA⟩ : ∃ A, A = 1074 := ⟨_, rfl⟩
  rw [valR_lt_iff, wN_val ha A hA, wN_val hb A hA]
  obtain ⟨P, hP⟩ : ∃ P, P = 2 ^ A := ⟨_, rfl⟩
  have hp : 0 < P := by rw [hP]; exact Nat.two_pow_pos _
  rw [← hP]
  exact ⟨fun h => Nat.lt_of_mul_lt_mul_right h, fun h => Nat.mul_lt_mul_of_pos_right h hp⟩
theorem order_wN {a b : Nat} (ha : a < 9007199254740992) (hb : b < 9007199254740992) : FloatKind.f64.format.order (wN a) (wN b) = some (compare (a : Int) (b : Int)) := by
  have h := order_pos (wN a) (wN b) (wN_fin ha) (wN_fin hb)
  refine h.trans ?_
  congr 1
  have h1 := wN_lt ha hb
  have h2 := wN_lt hb ha
  refine cmp_congr ?_ ?_
  · constructor
    · intro h; exact Int.ofNat_lt.2 (h1.1 (Int.ofNat_lt.1 h))
    · intro h; exact Int.ofNat_lt.2 (h1.2 (Int.ofNat_lt.1 h))
  · omega
theorem order_wN_self {a : Nat} (ha : a < 9007199254740992) : (FloatKind.f64.format.order (wN a) (wN a) == some .eq) = true := by
  rw [order_wN ha ha, cmp_eq]; rfl
theorem add_wN {a b : Nat} (h : a + b < 9007199254740992) : double.add (wN a) (wN b) = some (wN (a + b)) := by
  have ha : a < 9007199254740992 := by omega
  have hb : b < 9007199254740992 := by omega
  obtain ⟨n, mag, k, h1, h2, h3⟩ := sum_of false false (wN a) (wN b)
  obtain ⟨A, hA⟩ : ∃ A, A = 1074 := ⟨_, rfl⟩
  rw [key_false, key_false, wN_val ha A hA, wN_val hb A hA] at h2 h3
  unfold Format.add
  have ra := read_wd false (wN a) (wN_fin ha)
  have rb := read_wd false (wN b) (wN_fin hb)
  rw [wd_false] at ra rb
  rw [ra, rb, h1]
  simp only [Option.map_some, Format.write]
  rw [← hA]
  obtain ⟨P, hP⟩ : ∃ P, P = 2 ^ A := ⟨_, rfl⟩
  have hp : 0 < P := by rw [hP]; exact Nat.two_pow_pos _
  rw [← hP] at h2 h3
  have h2' : mag * 2 ^ k = (a + b) * P := by rw [h2, Nat.add_mul]; omega
  by_cases h0 : a + b = 0
  · have hm : mag = 0 := by
      rw [h0, Nat.zero_mul] at h2'
      rcases Nat.mul_eq_zero.1 h2' with h | h
      · exact h
      · exact absurd h (Nat.ne_of_gt (Nat.two_pow_pos k))
    have ea : a = 0 := by omega
    have eb : b = 0 := by omega
    subst ea eb hm
    have hn : n = false := by
      have e := h1
      rw [wN_zero] at e
      have : (Datum.number false (magR 0) ((expR 0 : Int) - 1074)).sum (Datum.number false (magR 0) ((expR 0 : Int) - 1074)) = some (Datum.number false 0 (-1074)) := by decide +kernel
      rw [this] at e
      simp at e
      exact e.1
    rw [hn, nearest_zero, word_wd, wd_false, wN_zero]
  · obtain ⟨M, L, hN, hL, e⟩ := wN_norm h0 h
    have hn : n = false := by
      have hpos : 0 < (a + b) * P := Nat.mul_pos (by omega) hp
      rw [Nat.add_mul] at hpos
      have := h3 (by omega)
      rw [this]
      simp
      omega
    rw [hn, nearest_norm false mag _ (a + b) M L hN (by omega) k A rfl (by rw [h2', hP]), word_wd, wd_false, e]
theorem wN_one : wN 1 = 4607182418800017408 := by decide +kernel
theorem ofInt_wN (n : Nat) : floatOfInt .f64 (n : Int) = wN n := by
  unfold floatOfInt FloatKind.nearest wN
  have h : decide ((n : Int) < 0) = false := by simp
  show Ieee.double.write (.number (decide ((n : Int) < 0)) ((n : Int).natAbs) 0) = _
  rw [h, Int.natAbs_natCast]
  rfl
theorem conv65 (n : Nat) (W : World) : (convert 65 30 (.int .u32 (n : Int))).run Tryz.prog W = .ok (.float .f64 (wN n)) W := by
  rw [run_convert_int_float W 65 30 .u32 .f64 (n : Int) (by rw [Tryz.underlying65]; rfl) Tryz.underlying30, ofInt_wN]
theorem conv3 (n : Nat) (W : World) : (convert 3 30 (.int .i64 (n : Int))).run Tryz.prog W = .ok (.float .f64 (wN n)) W := by
  rw [run_convert_int_float W 3 30 .i64 .f64 (n : Int) (by rw [Tryz.underlying3]; rfl) Tryz.underlying30, ofInt_wN]
theorem plus1 (n : Nat) (h : n < 4294967296) (W : World) : (binOp .add 30 (.float .f64 (wN n)) (.float .f64 4607182418800017408)).run Tryz.prog W = .ok (.float .f64 (wN (n + 1))) W := by
  have := add_wN (a := n) (b := 1) (by omega)
  rw [wN_one] at this
  exact run_float_arith W .add 30 .f64 _ _ _ this
theorem max_wN (a b : Nat) (ha : a < 9007199254740992) (hb : b < 9007199254740992) (ts : Array TypeId) (t : TypeId) (W : World) : (Builtin.max_ ts t #[.float .f64 (wN a), .float .f64 (wN b)]).run Tryz.prog W = .ok (.float .f64 (wN (max a b))) W := by
  have ho := order_wN ha hb
  rcases Nat.lt_trichotomy a b with h | h | h
  · rw [cmp_lt (by omega)] at ho
    simp [Builtin.max_, Builtin.max2, ho, Nat.max_eq_right (Nat.le_of_lt h)]
  · subst h
    rw [cmp_eq] at ho
    simp [Builtin.max_, Builtin.max2, ho]
  · rw [cmp_gt (by omega)] at ho
    simp [Builtin.max_, Builtin.max2, ho, Nat.max_eq_left (Nat.le_of_lt h)]
/-- What may be a length is finite. -/
theorem lenB_fin {k : Int} {x : Nat} (hx : x < 18446744073709551616) (h : LenB k x true) : k = 3 ∧ ∃ z, double.add x 0 = some z := by
  obtain ⟨h1, h2, h3⟩ := h rfl
  refine ⟨h1, ?_⟩
  obtain ⟨s, a, rfl, ha⟩ : ∃ s a, x = wd s a ∧ a < 9223372036854775808 := by
    by_cases hs : x < 9223372036854775808
    · exact ⟨false, x, (wd_false x).symm, hs⟩
    · exact ⟨true, x - 9223372036854775808, by rw [wd_true]; omega, by omega⟩
  have hfin : a < 9218868437227405312 := by
    rcases Nat.lt_trichotomy a 9218868437227405312 with h | h | h
    · exact h
    · exfalso
      subst h
      cases s
      · have e : FloatKind.f64.format.order (wd false 9218868437227405312) 4751297606873776128 = some .gt := by decide +kernel
        rw [e] at h3; simp at h3
      · have e : FloatKind.f64.format.order (wd true 9218868437227405312) 0 = some .lt := by decide +kernel
        rw [e] at h2; simp at h2
    · exfalso
      have e : FloatKind.f64.format.order (wd s a) 0 = none := order_nan 0 s a h ha
      rw [e] at h2; simp at h2
  obtain ⟨z, hz, _⟩ := add_sz (A := 2045) (x := wd s a) (y := 0) (by omega) (by omega) (by
    refine ⟨s, a, rfl, ?_⟩
    cases s
    · rw [wd_false] at h3
      have e : FloatKind.f64.format.order a 4751297606873776128 = some (compare (a : Int) (4751297606873776128 : Nat)) := order_pos a 4751297606873776128 hfin (by omega)
      rcases Nat.lt_or_ge 4751297606873776128 a with h | h
      · rw [e, cmp_gt (by omega)] at h3; simp at h3
      · omega
    · have e : FloatKind.f64.format.order (wd true a) 0 = some (compare (key true a) 0) := order_zero true a hfin
      rw [key_true] at e
      rcases Nat.eq_zero_or_pos a with h | h
      · omega
      · rw [e, cmp_lt (by omega)] at h2; simp at h2) (Sz.lit _ 0 (by omega))
  exact ⟨z, hz⟩
end Go.Proofs.YtmicdbplkfdfnaaGreatDoor
set_option linter.unusedVariables false
namespace Go.Proofs.YtmicdbplkfdfnaaGreatDoor
open Go.RowKit Go.Shelf Go.Maps

/-- A shape that is not alone: its block, its names' block, the steps that led to it, its map of followers. -/
structure Sh where
  S : Nat
  N : Nat
  path : List Stp
  X : Option Nat
/-- Names: the block, the map's block, its bound, the list's value, what the collector counted, the list. -/
structure Nm where
  N : Nat
  M : Nat
  n : Nat
  v : Value
  k : Value
  L : List ByteArray
def xV : Option Nat → Value
  | none => .map none
  | some x => .map (some x)
def nms (p : List Stp) : List ByteArray := p.map Prod.fst
theorem nms_snoc (p : List Stp) (q : Stp) : nms (p ++ [q]) = nms p ++ [q.1] := by simp [nms]
theorem nms_len (p : List Stp) : (nms p).length = p.length := by simp [nms]
structure Tree0 (w : World) (B : Nat) (F : List Nat) (ns : List Sh) (ms : List Nm) : Prop where
  shape : ∀ s ∈ ns, ∃ fr kp, w.heap[s.S]? = some (.cells #[.pointer (some ⟨s.N, 0, none⟩), .int .i64 (s.path.length : Int), fr, xV s.X, .bool false, .bool kp] 118 (0, 0))
  next : ∀ s ∈ ns, ∀ x, s.X = some x → ∃ nX f, nX ≤ B ∧ PMap w x nX f ∧ ∀ p i, f p = some i ↔ ∃ t ∈ ns, t.S = i ∧ t.path = s.path ++ [p]
  last : ∀ s ∈ ns, s.X = none → ∀ t ∈ ns, ∀ p, t.path ≠ s.path ++ [p]
  par : ∀ t ∈ ns, ∀ q p, t.path = q ++ [p] → ∃ u ∈ ns, u.path = q
  has : ∀ s ∈ ns, ∃ m ∈ ms, m.N = s.N ∧ nms s.path <+: m.L
  names : ∀ m ∈ ms, NamesAt w 0 m.N m.M m.n m.v m.k m.L ∧ m.n ≤ B ∧ m.L.length ≤ B ∧ m.L.Nodup ∧ ∀ x ∈ m.L, x.size ≤ maxLen
  dS : ∀ s ∈ ns, ∀ t ∈ ns, s.S = t.S → s = t
  dP : ∀ s ∈ ns, ∀ t ∈ ns, s.path = t.path → s = t
  dX : ∀ s ∈ ns, ∀ t ∈ ns, ∀ x, s.X = some x → t.X = some x → s = t
  dN : ∀ m ∈ ms, ∀ m' ∈ ms, m.N = m'.N → m = m'
  dM : ∀ m ∈ ms, ∀ m' ∈ ms, m.M = m'.M → m = m'
  dXM : ∀ s ∈ ns, ∀ x, s.X = some x → ∀ m ∈ ms, x ≠ m.M
  dR : ∀ m ∈ ms, ∀ m' ∈ ms, ∀ g, m.v.ownBlock = some g → m'.v.ownBlock = some g → m = m'
  fS : ∀ s ∈ ns, s.S ∈ F
  fX : ∀ s ∈ ns, ∀ x, s.X = some x → x ∈ F
  fN : ∀ m ∈ ms, m.N ∈ F
  fM : ∀ m ∈ ms, m.M ∈ F
  fR : ∀ m ∈ ms, ∀ g, m.v.ownBlock = some g → g ∈ F
  low : ∀ i ∈ F, i < w.heap.size
theorem NamesAt.kept {T : List Nat} {w w' : World} (h : Kx T w w') {base N M n : Nat} {v k : Value} {L : List ByteArray} (hn : NamesAt w base N M n v k L) (h1 : N ∉ T) (h2 : M ∉ T) (h3 : ∀ g, v.ownBlock = some g → g ∉ T) : NamesAt w' base N M n v k L :=
  ⟨h.get hn.1 h1, h.owns hn.2.1 h3, h.imap hn.2.2 h2⟩
theorem NamesAt.low {w : World} {base base' N M n : Nat} {v k : Value} {L : List ByteArray} (hn : NamesAt w base N M n v k L) (hb : base' ≤ base) : NamesAt w base' N M n v k L :=
  ⟨hn.1, owns_low hn.2.1 hb, hn.2.2⟩
theorem Tree0.kept {w w' : World} {B : Nat} {F : List Nat} {ns : List Sh} {ms : List Nm} (h : Tree0 w B F ns ms) {T : List Nat} (hk : Kx T w w') (hT : ∀ i ∈ F, i ∉ T) : Tree0 w' B F ns ms where
  shape := fun s hs => by
    obtain ⟨fr, kp, h1⟩ := h.shape s hs
    exact ⟨fr, kp, hk.get h1 (hT _ (h.fS s hs))⟩
  next := fun s hs x hx => by
    obtain ⟨nX, f, h1, h2, h3⟩ := h.next s hs x hx
    exact ⟨nX, f, h1, hk.pmap h2 (hT _ (h.fX s hs x hx)), h3⟩
  last := h.last
  par := h.par
  has := h.has
  names := fun m hm => by
    obtain ⟨h1, h2⟩ := h.names m hm
    exact ⟨h1.kept hk (hT _ (h.fN m hm)) (hT _ (h.fM m hm)) (fun g hg => hT _ (h.fR m hm g hg)), h2⟩
  dS := h.dS
  dP := h.dP
  dX := h.dX
  dN := h.dN
  dM := h.dM
  dXM := h.dXM
  dR := h.dR
  fS := h.fS
  fX := h.fX
  fN := h.fN
  fM := h.fM
  fR := h.fR
  low := fun i hi => Nat.lt_of_lt_of_le (h.low i hi) hk.size
theorem Tree0.mono {w : World} {B B' : Nat} {F : List Nat} {ns : List Sh} {ms : List Nm} (h : Tree0 w B F ns ms) (hB : B ≤ B') : Tree0 w B' F ns ms where
  shape := h.shape
  next := fun s hs x hx => by
    obtain ⟨nX, f, h1, h2, h3⟩ := h.next s hs x hx
    exact ⟨nX, f, Nat.le_trans h1 hB, h2, h3⟩
  last := h.last
  par := h.par
  has := h.has
  names := fun m hm => by
    obtain ⟨h1, h2, h3, h4⟩ := h.names m hm
    exact ⟨h1, Nat.le_trans h2 hB, Nat.le_trans h3 hB, h4⟩
  dS := h.dS
  dP := h.dP
  dX := h.dX
  dN := h.dN
  dM := h.dM
  dXM := h.dXM
  dR := h.dR
  fS := h.fS
  fX := h.fX
  fN := h.fN
  fM := h.fM
  fR := h.fR
  low := h.low
theorem snoc_inj {α : Type} {a b : List α} {x y : α} (h : a ++ [x] = b ++ [y]) : a = b ∧ x = y := by
  have := List.append_inj' h rfl
  exact ⟨this.1, by simpa using this.2⟩
theorem pref_snoc {α : Type} {a l : List α} {x : α} (h : a <+: l) : a <+: l ++ [x] := h.trans (List.prefix_append _ _)
/-- A shape gets a follower. -/
theorem Tree0.grown {w w' : World} {B : Nat} {F : List Nat} {ns : List Sh} {ms : List Nm} (h : Tree0 w B F ns ms) {s : Sh} {m : Nm} (hs : s ∈ ns) (hm : m ∈ ms) (hsm : m.N = s.N) (hpre : nms s.path <+: m.L)
    (p : Stp) (hno : ∀ t ∈ ns, t.path ≠ s.path ++ [p]) (hp : p.1.size ≤ maxLen) (hnp : p.1 ∉ nms s.path)
    {S' N' M' n' X' nX' : Nat} {v' k' fr fr' : Value} {kp kp' : Bool} {f' : Stp → Option Nat} {T : List Nat}
    (hT : ∀ i ∈ T, i = s.S ∨ s.X = some i ∨ (N' = s.N ∧ (i = m.N ∨ i = m.M ∨ m.v.ownBlock = some i))) (hk : Kx T w w')
    (hS' : w.heap.size ≤ S') (hSS : w'.heap[S']? = some (.cells #[.pointer (some ⟨N', 0, none⟩), .int .i64 ((s.path.length : Int) + 1), fr', .map none, .bool false, .bool kp'] 118 (0, 0)))
    (hS : w'.heap[s.S]? = some (.cells #[.pointer (some ⟨s.N, 0, none⟩), .int .i64 (s.path.length : Int), fr, .map (some X'), .bool false, .bool kp] 118 (0, 0)))
    (hX : s.X = some X' ∨ (s.X = none ∧ w.heap.size ≤ X')) (hPX : PMap w' X' nX' f') (hnX : nX' ≤ B + 1)
    (hf' : ∀ q i, f' q = some i ↔ (q = p ∧ i = S') ∨ (q ≠ p ∧ ∃ t ∈ ns, t.S = i ∧ t.path = s.path ++ [q]))
    (hNN : NamesAt w' 0 N' M' n' v' k' (nms s.path ++ [p.1])) (hn' : n' ≤ B + 1)
    (hN : (N' = s.N ∧ M' = m.M ∧ m.L = nms s.path ∧ ∀ g, v'.ownBlock = some g → m.v.ownBlock = some g ∨ w.heap.size ≤ g) ∨ (w.heap.size ≤ N' ∧ w.heap.size ≤ M' ∧ M' ≠ X' ∧ ∀ g, v'.ownBlock = some g → w.heap.size ≤ g)) :
    Tree0 w' (B + 1) (S' :: X' :: N' :: M' :: (v'.ownBlock.toList ++ F)) (⟨S', N', s.path ++ [p], none⟩ :: ⟨s.S, s.N, s.path, some X'⟩ :: ns.filter (fun u => decide (u.S ≠ s.S))) (⟨N', M', n', v', k', nms s.path ++ [p.1]⟩ :: ms.filter (fun u => decide (u.N ≠ N'))) := by
  have memN : ∀ u, u ∈ (⟨S', N', s.path ++ [p], none⟩ :: ⟨s.S, s.N, s.path, some X'⟩ :: ns.filter (fun u => decide (u.S ≠ s.S)) : List Sh) ↔ u = ⟨S', N', s.path ++ [p], none⟩ ∨ u = ⟨s.S, s.N, s.path, some X'⟩ ∨ (u ∈ ns ∧ u.S ≠ s.S) := fun u => by simp
  have memM : ∀ u, u ∈ (⟨N', M', n', v', k', nms s.path ++ [p.1]⟩ :: ms.filter (fun u => decide (u.N ≠ N')) : List Nm) ↔ u = ⟨N', M', n', v', k', nms s.path ++ [p.1]⟩ ∨ (u ∈ ms ∧ u.N ≠ N') := fun u => by simp
  have lS : ∀ u ∈ ns, u.S < w.heap.size := fun u hu => h.low _ (h.fS u hu)
  have lX : ∀ u ∈ ns, ∀ x, u.X = some x → x < w.heap.size := fun u hu x hx => h.low _ (h.fX u hu x hx)
  have lN : ∀ u ∈ ms, u.N < w.heap.size := fun u hu => h.low _ (h.fN u hu)
  have lM : ∀ u ∈ ms, u.M < w.heap.size := fun u hu => h.low _ (h.fM u hu)
  have lR : ∀ u ∈ ms, ∀ g, u.v.ownBlock = some g → g < w.heap.size := fun u hu g hg => h.low _ (h.fR u hu g hg)
  have ne_path : ∀ u ∈ ns, u.S ≠ s.S → u.path ≠ s.path := fun u hu hne he => hne (by rw [h.dP u hu s hs he])
  -- what lies where: kinds of blocks
  have cS : ∀ u ∈ ns, ∃ C, w.heap[u.S]? = some (.cells C 118 (0, 0)) := fun u hu => by obtain ⟨a, b, h1⟩ := h.shape u hu; exact ⟨_, h1⟩
  have cN : ∀ u ∈ ms, ∃ C, w.heap[u.N]? = some (.cells C 121 (0, 0)) := fun u hu => ⟨_, (h.names u hu).1.1⟩
  have nT_S : ∀ u ∈ ns, u.S ≠ s.S → u.S ∉ T := fun u hu hne hm2 => by
    obtain ⟨C, hC⟩ := cS u hu
    rcases hT _ hm2 with e | e | ⟨_, e | e | e⟩
    · exact hne e
    · obtain ⟨nX, f, _, hP, _⟩ := h.next s hs _ e
      exact pmap_cells hP hC rfl
    · obtain ⟨D, hD⟩ := cN m hm
      exact cells_ne hC hD (by decide) e
    · exact imap_cells (h.names m hm).1.2.2 hC e
    · exact owns_ne (h.names m hm).1.2.1 hC (by decide) _ e rfl
  have nT_X : ∀ u ∈ ns, u.S ≠ s.S → ∀ x, u.X = some x → x ∉ T := fun u hu hne x hx hm2 => by
    obtain ⟨nX, f, _, hP, _⟩ := h.next u hu x hx
    rcases hT _ hm2 with e | e | ⟨_, e | e | e⟩
    · obtain ⟨C, hC⟩ := cS s hs
      exact pmap_cells hP hC e.symm
    · exact hne (by rw [h.dX u hu s hs x hx e])
    · obtain ⟨D, hD⟩ := cN m hm
      exact pmap_cells hP hD e.symm
    · exact h.dXM u hu x hx m hm e
    · exact pmap_apart hP (h.names m hm).1.2.1 (by rw [e]; simp)
  have same_m : ∀ u ∈ ms, u.N ≠ N' → N' = s.N → u ≠ m := fun u hu hne e1 e2 => hne (by rw [e2, hsm, e1])
  have nT_names : ∀ u ∈ ms, u.N ≠ N' → u.N ∉ T ∧ u.M ∉ T ∧ ∀ g, u.v.ownBlock = some g → g ∉ T := fun u hu hne => by
    obtain ⟨C, hC⟩ := cS s hs
    obtain ⟨D, hD⟩ := cN u hu
    refine ⟨fun hm2 => ?_, fun hm2 => ?_, fun g hg hm2 => ?_⟩
    · rcases hT _ hm2 with e | e | ⟨eN, e | e | e⟩
      · exact cells_ne hD hC (by decide) e
      · obtain ⟨nX, f, _, hP, _⟩ := h.next s hs _ e
        exact pmap_cells hP hD rfl
      · exact same_m u hu hne eN (h.dN u hu m hm e)
      · exact imap_cells (h.names m hm).1.2.2 hD e
      · exact owns_ne (h.names m hm).1.2.1 hD (by decide) _ e rfl
    · rcases hT _ hm2 with e | e | ⟨eN, e | e | e⟩
      · exact imap_cells (h.names u hu).1.2.2 hC e.symm
      · exact h.dXM s hs _ e u hu rfl
      · obtain ⟨E, hE⟩ := cN m hm
        exact imap_cells (h.names u hu).1.2.2 hE e.symm
      · exact same_m u hu hne eN (h.dM u hu m hm e)
      · exact imap_apart (h.names u hu).1.2.2 (h.names m hm).1.2.1 e.symm
    · rcases hT _ hm2 with e | e | ⟨eN, e | e | e⟩
      · exact owns_ne (h.names u hu).1.2.1 hC (by decide) _ hg e
      · obtain ⟨nX, f, _, hP, _⟩ := h.next s hs _ e
        exact pmap_apart hP (h.names u hu).1.2.1 (by rw [hg]; simp)
      · obtain ⟨E, hE⟩ := cN m hm
        exact owns_ne (h.names u hu).1.2.1 hE (by decide) _ hg e
      · exact imap_apart (h.names m hm).1.2.2 (h.names u hu).1.2.1 (by rw [hg, e])
      · exact same_m u hu hne eN (h.dR u hu m hm g hg e)
  have lX' : ∀ u ∈ ns, u.S ≠ s.S → ∀ x, u.X = some x → x ≠ X' := fun u hu hne x hx e => by
    rcases hX with e1 | ⟨_, e1⟩
    · exact hne (by rw [h.dX u hu s hs x hx (by rw [e1, e])])
    · have := lX u hu x hx
      omega
  have lM' : ∀ u ∈ ms, u.N ≠ N' → u.M ≠ M' := fun u hu hne e => by
    rcases hN with ⟨e1, e2, _⟩ | ⟨_, e1, _⟩
    · exact same_m u hu hne e1 (h.dM u hu m hm (by rw [e, e2]))
    · have := lM u hu
      omega
  have lR' : ∀ u ∈ ms, u.N ≠ N' → ∀ g, u.v.ownBlock = some g → v'.ownBlock ≠ some g := fun u hu hne g hg e => by
    have hl := lR u hu g hg
    rcases hN with ⟨e1, _, _, e2⟩ | ⟨_, _, _, e2⟩
    · rcases e2 g e with e3 | e3
      · exact same_m u hu hne e1 (h.dR u hu m hm g hg e3)
      · omega
    · have := e2 g e
      omega
  have lMX : M' ≠ X' := by
    rcases hN with ⟨_, e2, _⟩ | ⟨_, _, e2, _⟩
    · rcases hX with e1 | ⟨_, e1⟩
      · intro e
        exact h.dXM s hs X' e1 m hm (by rw [← e, e2])
      · have := lM m hm
        omega
    · exact e2
  have hLd : (nms s.path ++ [p.1]).Nodup := by
    rw [List.nodup_append]
    refine ⟨hpre.sublist.nodup (h.names m hm).2.2.2.1, by simp, ?_⟩
    intro a ha b hb
    simp at hb
    rw [hb]
    intro e
    exact hnp (e ▸ ha)
  refine { shape := ?_, next := ?_, last := ?_, par := ?_, has := ?_, names := ?_, dS := ?_, dP := ?_, dX := ?_, dN := ?_, dM := ?_, dXM := ?_, dR := ?_, fS := ?_, fX := ?_, fN := ?_, fM := ?_, fR := ?_, low := ?_ }
  · intro u hu
    rcases (memN u).1 hu with rfl | rfl | ⟨h1, h2⟩
    · refine ⟨fr', kp', ?_⟩
      simp only [xV, List.length_append, List.length_cons, List.length_nil]
      exact hSS
    · exact ⟨fr, kp, hS⟩
    · obtain ⟨a, b, h3⟩ := h.shape u h1
      exact ⟨a, b, hk.get h3 (nT_S u h1 h2)⟩
  · intro u hu x hx
    have step : ∀ (u0 : List Stp) q i, (∃ t ∈ ns, t.S = i ∧ t.path = u0 ++ [q]) → ∃ t, t ∈ (⟨S', N', s.path ++ [p], none⟩ :: ⟨s.S, s.N, s.path, some X'⟩ :: ns.filter (fun u => decide (u.S ≠ s.S)) : List Sh) ∧ t.S = i ∧ t.path = u0 ++ [q] := by
      rintro u0 q i ⟨t, ht, h3, h4⟩
      by_cases hts : t.S = s.S
      · have e := h.dS t ht s hs hts
        subst e
        exact ⟨_, (memN _).2 (.inr (.inl rfl)), h3, h4⟩
      · exact ⟨t, (memN _).2 (.inr (.inr ⟨ht, hts⟩)), h3, h4⟩
    rcases (memN u).1 hu with rfl | rfl | ⟨h1, h2⟩
    · cases hx
    · cases hx
      refine ⟨nX', f', hnX, hPX, fun q i => ?_⟩
      rw [hf']
      constructor
      · rintro (⟨rfl, rfl⟩ | ⟨h3, h4⟩)
        · exact ⟨_, (memN _).2 (.inl rfl), rfl, rfl⟩
        · exact step _ _ _ h4
      · rintro ⟨t, ht, h3, h4⟩
        by_cases hq : q = p
        · left
          refine ⟨hq, ?_⟩
          rcases (memN t).1 ht with rfl | rfl | ⟨h5, h6⟩
          · exact h3.symm
          · have := congrArg List.length h4
            simp at this
          · rw [hq] at h4
            exact absurd h4 (hno t h5)
        · right
          refine ⟨hq, ?_⟩
          rcases (memN t).1 ht with rfl | rfl | ⟨h5, h6⟩
          · exact absurd (snoc_inj h4).2.symm hq
          · have := congrArg List.length h4
            simp at this
          · exact ⟨t, h5, h3, h4⟩
    · obtain ⟨nX, f, h3, h4, h5⟩ := h.next u h1 x hx
      refine ⟨nX, f, by omega, hk.pmap h4 (nT_X u h1 h2 x hx), fun q i => ?_⟩
      rw [h5]
      constructor
      · exact step _ _ _
      · rintro ⟨t, ht, h6, h7⟩
        rcases (memN t).1 ht with rfl | rfl | ⟨h8, h9⟩
        · exact absurd (snoc_inj h7).1.symm (ne_path u h1 h2)
        · exact ⟨s, hs, h6, h7⟩
        · exact ⟨t, h8, h6, h7⟩
  · intro u hu hx t ht q hq
    rcases (memN u).1 hu with rfl | rfl | ⟨h1, h2⟩
    · rcases (memN t).1 ht with rfl | rfl | ⟨h3, h4⟩
      · have := congrArg List.length hq
        simp at this
      · have := congrArg List.length hq
        simp at this
      · obtain ⟨u, hu1, hu2⟩ := h.par t h3 _ _ hq
        exact hno u hu1 hu2
    · cases hx
    · rcases (memN t).1 ht with rfl | rfl | ⟨h3, h4⟩
      · exact ne_path u h1 h2 (snoc_inj hq).1.symm
      · exact h.last u h1 hx s hs q hq
      · exact h.last u h1 hx t h3 q hq
  · intro t ht q r hq
    rcases (memN t).1 ht with rfl | rfl | ⟨h3, h4⟩
    · exact ⟨_, (memN _).2 (.inr (.inl rfl)), (snoc_inj hq).1⟩
    · obtain ⟨u, hu1, hu2⟩ := h.par s hs q r hq
      exact ⟨u, (memN _).2 (.inr (.inr ⟨hu1, fun e => by
        have e2 := h.dS u hu1 s hs e
        rw [e2] at hu2
        have := congrArg List.length hq
        simp [hu2] at this⟩)), hu2⟩
    · obtain ⟨u, hu1, hu2⟩ := h.par t h3 q r hq
      by_cases e : u.S = s.S
      · have e2 := h.dS u hu1 s hs e
        exact ⟨_, (memN _).2 (.inr (.inl rfl)), by rw [← e2]; exact hu2⟩
      · exact ⟨u, (memN _).2 (.inr (.inr ⟨hu1, e⟩)), hu2⟩
  · intro u hu
    rcases (memN u).1 hu with rfl | rfl | ⟨h1, h2⟩
    · exact ⟨_, (memM _).2 (.inl rfl), rfl, by rw [nms_snoc]; exact List.prefix_refl _⟩
    · rcases hN with ⟨e1, _⟩ | ⟨e1, _⟩
      · exact ⟨_, (memM _).2 (.inl rfl), e1, List.prefix_append _ _⟩
      · exact ⟨m, (memM _).2 (.inr ⟨hm, by have := lN m hm; omega⟩), hsm, hpre⟩
    · obtain ⟨m2, h3, h4, h5⟩ := h.has u h1
      by_cases e : m2.N = N'
      · rcases hN with ⟨e1, _, e3, _⟩ | ⟨e1, _⟩
        · have e4 := h.dN m2 h3 m hm (by rw [e, e1, hsm])
          refine ⟨_, (memM _).2 (.inl rfl), by rw [← h4, e], ?_⟩
          rw [e4, e3] at h5
          exact pref_snoc h5
        · have := lN m2 h3
          omega
      · exact ⟨m2, (memM _).2 (.inr ⟨h3, e⟩), h4, h5⟩
  · intro u hu
    rcases (memM u).1 hu with rfl | ⟨h1, h2⟩
    · refine ⟨hNN, hn', ?_, hLd, ?_⟩
      · have h1 := hpre.length_le
        have h2 := (h.names m hm).2.2.1
        simp only [List.length_append, List.length_cons, List.length_nil]
        omega
      · intro x hx
        simp only [List.mem_append, List.mem_singleton] at hx
        rcases hx with hx | rfl
        · exact (h.names m hm).2.2.2.2 x (hpre.subset hx)
        · exact hp
    · obtain ⟨h3, h4, h5, h6⟩ := h.names u h1
      obtain ⟨a1, a2, a3⟩ := nT_names u h1 h2
      exact ⟨h3.kept hk a1 a2 a3, by omega, by omega, h6⟩
  · intro u hu t ht e
    rcases (memN u).1 hu with rfl | rfl | ⟨h1, h2⟩ <;> rcases (memN t).1 ht with rfl | rfl | ⟨h3, h4⟩
    · rfl
    · have := lS s hs; simp at e; omega
    · have := lS t h3; simp at e; omega
    · have := lS s hs; simp at e; omega
    · rfl
    · exact absurd e.symm h4
    · have := lS u h1; simp at e; omega
    · exact absurd e h2
    · exact h.dS u h1 t h3 e
  · intro u hu t ht e
    rcases (memN u).1 hu with rfl | rfl | ⟨h1, h2⟩ <;> rcases (memN t).1 ht with rfl | rfl | ⟨h3, h4⟩
    · rfl
    · have := congrArg List.length e; simp at this
    · exact absurd e.symm (hno t h3)
    · have := congrArg List.length e; simp at this
    · rfl
    · exact absurd e.symm (ne_path t h3 h4)
    · exact absurd e (hno u h1)
    · exact absurd e (ne_path u h1 h2)
    · exact h.dP u h1 t h3 e
  · intro u hu t ht x hux htx
    rcases (memN u).1 hu with rfl | rfl | ⟨h1, h2⟩ <;> rcases (memN t).1 ht with rfl | rfl | ⟨h3, h4⟩
    · rfl
    · cases hux
    · cases hux
    · cases htx
    · rfl
    · exact absurd (Option.some.inj hux).symm (lX' t h3 h4 x htx)
    · cases htx
    · exact absurd (Option.some.inj htx).symm (lX' u h1 h2 x hux)
    · exact h.dX u h1 t h3 x hux htx
  · intro u hu t ht e
    rcases (memM u).1 hu with rfl | ⟨h1, h2⟩ <;> rcases (memM t).1 ht with rfl | ⟨h3, h4⟩
    · rfl
    · exact absurd e.symm h4
    · exact absurd e h2
    · exact h.dN u h1 t h3 e
  · intro u hu t ht e
    rcases (memM u).1 hu with rfl | ⟨h1, h2⟩ <;> rcases (memM t).1 ht with rfl | ⟨h3, h4⟩
    · rfl
    · exact absurd e.symm (lM' t h3 h4)
    · exact absurd e (lM' u h1 h2)
    · exact h.dM u h1 t h3 e
  · intro u hu x hx t ht e
    rcases (memN u).1 hu with rfl | rfl | ⟨h1, h2⟩ <;> rcases (memM t).1 ht with rfl | ⟨h3, h4⟩
    · cases hx
    · cases hx
    · cases hx
      exact lMX e.symm
    · cases hx
      rcases hX with e1 | ⟨_, e1⟩
      · exact h.dXM s hs _ e1 t h3 e
      · have := lM t h3
        omega
    · have hl := lX u h1 x hx
      rcases hN with ⟨_, e2, _⟩ | ⟨_, e2, _⟩
      · exact h.dXM u h1 x hx m hm (by rw [e]; exact e2)
      · simp at e
        omega
    · exact h.dXM u h1 x hx t h3 e
  · intro u hu t ht g hg hg2
    rcases (memM u).1 hu with rfl | ⟨h1, h2⟩ <;> rcases (memM t).1 ht with rfl | ⟨h3, h4⟩
    · rfl
    · exact absurd hg (lR' t h3 h4 g hg2)
    · exact absurd hg2 (lR' u h1 h2 g hg)
    · exact h.dR u h1 t h3 g hg hg2
  · intro u hu
    rcases (memN u).1 hu with rfl | rfl | ⟨h1, h2⟩
    · simp
    · simp [h.fS s hs]
    · simp [h.fS u h1]
  · intro u hu x hx
    rcases (memN u).1 hu with rfl | rfl | ⟨h1, h2⟩
    · cases hx
    · cases hx
      simp
    · simp [h.fX u h1 x hx]
  · intro u hu
    rcases (memM u).1 hu with rfl | ⟨h1, h2⟩
    · simp
    · simp [h.fN u h1]
  · intro u hu
    rcases (memM u).1 hu with rfl | ⟨h1, h2⟩
    · simp
    · simp [h.fM u h1]
  · intro u hu g hg
    rcases (memM u).1 hu with rfl | ⟨h1, h2⟩
    · have hg' : v'.ownBlock = some g := hg
      simp [hg']
    · simp [h.fR u h1 g hg]
  · intro i hi
    simp only [List.mem_cons, List.mem_append] at hi
    rcases hi with rfl | rfl | rfl | rfl | hi | hi
    · exact lt_get hSS
    · exact hPX.lt
    · exact lt_get hNN.1
    · exact hNN.2.2.lt
    · cases hv : v'.ownBlock with
      | none => rw [hv] at hi; cases hi
      | some g =>
        rw [hv] at hi
        simp at hi
        rw [hi]
        exact (hNN.2.1.lt g hv).2
    · exact Nat.lt_of_lt_of_le (h.low i hi) hk.size
end Go.Proofs.YtmicdbplkfdfnaaGreatDoor
set_option linter.unusedVariables false
namespace Go.Proofs.YtmicdbplkfdfnaaGreatDoor
open Go.RowKit Go.Shelf Go.Maps

set_option maxRecDepth 100000 in
set_option maxHeartbeats 2000000 in
theorem apart_any (S N : Nat) (v m k fr nx kp : Value) (L : List ByteArray) (cnt : Nat) (w : World)
    (hS : w.heap[S]? = some (.cells #[.pointer (some ⟨N, 0, none⟩), .int .i64 (cnt : Int), fr, nx, .bool false, kp] 118 (0, 0)))
    (hN : w.heap[N]? = some (.cells #[v, m, k] 121 (0, 0))) (hrow : w.ownsRow 0 9 1 v L.length (L.map Value.string)) (hc : cnt ≤ L.length) (hL : L.length ≤ 1000) (hs : ∀ s ∈ L, s.size ≤ maxLen) :
    Calls Tryz.prog 86 #[.pointer (some ⟨S, 0, none⟩)] w fun e w' => ∃ S' N' M' v', e = .returned (.pointer (some ⟨S', 0, none⟩)) ∧ w.heap.size ≤ S' ∧ w.heap.size ≤ N' ∧ w.heap.size ≤ M' ∧ w'.heap[S']? = some (.cells #[.pointer (some ⟨N', 0, none⟩), .int .i64 (cnt : Int), .pointer none, .map none, .bool true, .bool false] 118 (0, 0)) ∧ NamesAt w' w.heap.size N' M' cnt v' (.int .i64 0) (L.take cnt) ∧ Kx [] w w' := by
  have cP : ∀ W, Kx [] w W → Calls Tryz.prog 119 #[.pointer (some ⟨N, 0, none⟩), .int .i64 (cnt : Int)] W fun e w' => ∃ N' M' v', e = .returned (.pointer (some ⟨N', 0, none⟩)) ∧ W.heap.size ≤ N' ∧ W.heap.size ≤ M' ∧ w'.heap[N']? = some (.cells #[v', .map (some M'), .int .i64 0] 121 (0, 0)) ∧ w'.ownsRow W.heap.size 9 1 v' cnt ((L.take cnt).map Value.string) ∧ IMap w' M' cnt (pf (L.take cnt)) ∧ Below W.heap.size W w' := fun W hW => part_any N v m k L cnt W 0 (hW.get hN (by simp)) (hW.owns hrow (fun g hg => by simp)) hc hL hs
  have CP := (show Hid _ from cP)
  have c0 := cell_at hS 0 rfl
  have c1 := cell_at hS 1 rfl
  have c4 := cell_at hS 4 rfl
  clear cP hN hrow hS
  go_enter Tryz.func86, Tryz.ntmps86
  go_wp2
  go_region_law (first | (go_simp; go_at_call 119; refine (CP.out _ (Kx.drew _ _)).mono ?_; rintro e w1 ⟨N', M', v', rfl, g1, g2, g3, g4, g5, g6⟩; obtain ⟨a1, c5, rfl⟩ := owns_slice g4; have cA := alone_any N' cnt c5 a1 _ _ w1 g3; have HG : Hid (w.heap.size ≤ N' ∧ w.heap.size ≤ M' ∧ NamesAt w1 w.heap.size N' M' cnt (.slice a1 cnt c5) (.int .i64 0) (L.take cnt) ∧ Kx [] w w1) := (show _ ∧ _ ∧ _ ∧ _ from ⟨g1, g2, ⟨g3, by rw [List.length_take, Nat.min_eq_left hc]; exact g4, g5⟩, (Kx.drew [] w).same (Kx.ofBelow g6 [])⟩); clear g1 g2 g3 g4 g5 g6) | (go_simp; go_at_call 117; refine cA.mono ?_; rintro e w2 ⟨rfl, rfl⟩))
  all_goals
    go_wp2
    go_ret
    obtain ⟨g1, g2, g3, g4⟩ := HG.out
    exact ⟨w1.heap.size, N', M', _, rfl, g4.size, g1, g2, heap_alloc_new _ _, g3.kept (Kx.alloc [] _ _) (by simp) (by simp) (by simp), g4.alc _⟩
set_option maxRecDepth 100000 in
set_option maxHeartbeats 2000000 in
theorem apart_alone (S N n c : Nat) (a : Option Addr) (m k ct fr nx kp : Value) (w : World)
    (hS : w.heap[S]? = some (.cells #[.pointer (some ⟨N, 0, none⟩), ct, fr, nx, .bool true, kp] 118 (0, 0)))
    (hN : w.heap[N]? = some (.cells #[.slice a n c, m, k] 121 (0, 0))) :
    Calls Tryz.prog 86 #[.pointer (some ⟨S, 0, none⟩)] w fun e w' => e = .returned (.pointer (some ⟨w.heap.size, 0, none⟩)) ∧ w' = w.alloc (.cells #[.pointer (some ⟨N, 0, none⟩), .int .i64 (n : Int), .pointer none, .map none, .bool true, .bool false] 118) := by
  have cA := alone_any N n c a m k w hN
  have c0 := cell_at hS 0 rfl
  have c4 := cell_at hS 4 rfl
  clear hS hN
  go_enter Tryz.func86, Tryz.ntmps86
  go_wp2_with (first | (go_at_call 117; refine cA.mono ?_; rintro e w2 ⟨rfl, rfl⟩))
  go_ret
  exact ⟨rfl, rfl⟩
end Go.Proofs.YtmicdbplkfdfnaaGreatDoor
