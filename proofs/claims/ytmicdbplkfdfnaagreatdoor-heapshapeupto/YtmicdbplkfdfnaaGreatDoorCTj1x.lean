/- The state of the law's one object. -/
import Derived.Test.YtmicdbplkfdfnaaGreatDoorCTh1x
import Derived.Test.YtmicdbplkfdfnaaGreatDoorCTh2x
import Derived.Test.YtmicdbplkfdfnaaGreatDoorCSq7
import Derived.Test.YtmicdbplkfdfnaaGreatDoorCHt2x
import Derived.Test.YtmicdbplkfdfnaaGreatDoorCHo3x
import Derived.Test.YtmicdbplkfdfnaaGreatDoorCHb1x
import Derived.Test.YtmicdbplkfdfnaaGreatDoorCHn6x
import Derived.LaidEqlPtr
set_option linter.unusedVariables false
namespace Go.Proofs.YtmicdbplkfdfnaaGreatDoor
open Go.RowKit Go.Shelf Go.Maps

theorem flat_get {α : Type} (f : α → List Value) (n : Nat) (hf : ∀ a, (f a).length = n) : ∀ (vs : List α) (j : Nat) (a : α) (t : Nat), vs[j]? = some a → t < n → (vs.flatMap f)[j * n + t]? = (f a)[t]?
  | [], j, a, t, h, _ => by simp at h
  | b :: vs, 0, a, t, h, ht => by
    simp at h
    subst h
    rw [List.flatMap_cons, Nat.zero_mul, Nat.zero_add, List.getElem?_append_left (by rw [hf]; exact ht)]
  | b :: vs, j + 1, a, t, h, ht => by
    have ih := flat_get f n hf vs j a t (by simpa using h) ht
    rw [List.flatMap_cons, List.getElem?_append_right (by rw [hf, Nat.add_mul]; omega), hf, show (j + 1) * n + t - n = j * n + t by rw [Nat.add_mul]; omega]
    exact ih
/-- The ten cells of a property that is a number. -/
def prL (p : Pr) : List Value := [.bool p.1, .bool p.2.1, .bool p.2.2.1, .bool false, .int .i64 3, .float .f64 p.2.2.2, .string ⟨#[]⟩, .pointer none, .pointer none, .pointer none]
def prsL (P : List Pr) : List Value := P.flatMap prL
theorem prL_len (p : Pr) : (prL p).length = 10 := rfl
theorem prsL_len : ∀ P : List Pr, (prsL P).length = P.length * 10
  | [] => rfl
  | p :: P => by
    have := prsL_len P
    unfold prsL at this ⊢
    rw [List.flatMap_cons, List.length_append, this, prL_len, List.length_cons]
    omega
theorem prsL_snoc (P : List Pr) (p : Pr) : prsL (P ++ [p]) = prsL P ++ prL p := by simp [prsL]
theorem prsL_set : ∀ (P : List Pr) (i : Nat) (p : Pr), i < P.length → (prsL P).take (i * 10) ++ prL p ++ (prsL P).drop (i * 10 + 10) = prsL (P.set i p)
  | [], i, p, h => by simp at h
  | a :: P, 0, p, h => by
    simp only [prsL, List.flatMap_cons, Nat.zero_mul, List.take_zero, List.nil_append, Nat.zero_add, List.set_cons_zero]
    rw [List.drop_append_of_le_length (by rw [prL_len]; exact Nat.le_refl _)]
    rfl
  | a :: P, i + 1, p, h => by
    have ih := prsL_set P i p (by simpa using h)
    simp only [prsL, List.flatMap_cons, List.set_cons_succ] at ih ⊢
    rw [← ih]
    rw [List.take_append, List.drop_append, prL_len, show (i + 1) * 10 - 10 = i * 10 by omega, show (i + 1) * 10 + 10 - 10 = i * 10 + 10 by omega,
      List.take_of_length_le (by rw [prL_len]; omega), List.drop_of_length_le (by rw [prL_len]; omega)]
    simp
theorem prs_cells {w : World} {base g n cap : Nat} {P : List Pr} (h : w.ownsRow base 75 10 (.slice (some ⟨g, 0, none⟩) n cap) n (prsL P)) {i : Nat} {p : Pr} (hp : P[i]? = some p) (t : Nat) (ht : t < 10) (v : Value) (hv : (prL p)[t]? = some v) : w.cell? ⟨g, i * 10 + t, none⟩ = some v := by
  have := h.cells (g := g) rfl (i * 10 + t) v (by rw [prsL, flat_get prL 10 prL_len P i p t hp ht]; exact hv)
  rw [Addr.add_lit, Nat.zero_add] at this
  exact this
/-- A row of properties, one of them stored anew. -/
theorem prs_stored {w w' : World} {base g n cap : Nat} {P : List Pr} (hn : n = P.length) (h : w.ownsRow base 75 10 (.slice (some ⟨g, 0, none⟩) n cap) n (prsL P)) {cur cur' : Array Value} (hG : w.heap[g]? = some (.cells cur 75 (0, 0)))
    {i : Nat} (hi : i < n) (p : Pr) (hG' : w'.heap[g]? = some (.cells cur' 75 (0, 0))) (hs : cur'.size = cur.size)
    (hl : cur'.toList = cur.toList.take (i * 10) ++ prL p ++ cur.toList.drop (i * 10 + 10)) : w'.ownsRow base 75 10 (.slice (some ⟨g, 0, none⟩) n cap) n (prsL (P.set i p)) := by
  refine ⟨by rw [prsL_len, List.length_set, hn], .inr ?_⟩
  rcases h.2 with ⟨e, _⟩ | ⟨g2, cap2, cur2, e, h1, h2, h3, h4, h5, h6⟩
  · cases e
  · simp only [Value.slice.injEq, Option.some.injEq, Addr.mk.injEq] at e
    obtain ⟨⟨rfl, -, -⟩, -, rfl⟩ := e
    rw [hG] at h2
    simp only [Option.some.injEq, Obj.cells.injEq, and_true] at h2
    subst h2
    refine ⟨g, cap, cur', rfl, h1, hG', h3, h4, by rw [hs]; exact h5, ?_⟩
    have hsz : cur.toList.length = cap * 10 := by rw [Array.length_toList, h5]
    have h10 : n * 10 ≤ cap * 10 := Nat.mul_le_mul_right 10 h3
    have hi10 : i * 10 + 10 ≤ n * 10 := by omega
    rw [hl, ← prsL_set P i p (by omega), ← h6]
    rw [List.take_append, List.take_append, List.length_append, List.length_take, prL_len, List.take_take, List.take_take, List.drop_take, hsz,
      Nat.min_eq_left (show i * 10 ≤ cap * 10 by omega), Nat.min_eq_right (show i * 10 ≤ n * 10 by omega), Nat.min_eq_left (show i * 10 ≤ n * 10 by omega),
      List.take_of_length_le (show (prL p).length ≤ n * 10 - i * 10 by rw [prL_len]; omega), show n * 10 - (i * 10 + 10) = n * 10 - (i * 10 + 10) from rfl]
def arrS : ByteArray := ⟨#[65, 114, 114, 97, 121]⟩
def objS : ByteArray := ⟨#[79, 98, 106, 101, 99, 116]⟩
def clsS (arr : Bool) : ByteArray := if arr then arrS else objS
theorem clsS_is (arr : Bool) : ((clsS arr).toList == [65, 114, 114, 97, 121]) = arr := by cases arr <;> decide +kernel
/-- What a state is made of, that it can hand on. -/
structure Fp where
  al : Bool
  q : Nat
  m : Nat
  hv : Value
  S0 : Nat
  S : Nat
  N : Nat
  M : Nat
  v : Value
  k : Value
  fr : Value
  nx : Value
  nv : Value
  st : Value
/-- The blocks that a state lies in. -/
def Fp.blocks (F : Fp) (O H b : Nat) : List Nat := O :: H :: b :: F.S :: F.N :: F.M :: (F.hv.ownBlock.toList ++ F.v.ownBlock.toList ++ F.nv.ownBlock.toList ++ stB F.st)
/-- A name: a text that is no place. -/
def NameOK (nm : ByteArray) : Prop := ∃ us : List Nat, (∀ u ∈ us, u < 65536) ∧ nm = txt us ∧ ixOf us < 0
structure FSt (w : World) (n0 O H b : Nat) (arr fx : Bool) (L : List ByteArray) (P : List Pr) (f : Nat → Option Pr) (F : Fp) : Prop where
  face : w.heap[O]? = some (.cells #[.pointer (some ⟨H, 0, none⟩)] 54 (0, 0))
  heap : w.heap[H]? = some (.cells #[F.hv, .int .i64 1, .int .i64 0, .int .i64 0, .pointer (some ⟨F.S0, 0, none⟩), .int .i64 0, .int .i64 0] 91 (0, 0))
  row : w.ownsRow n0 61 1 F.hv 1 [ptrV b]
  obj : w.heap[b]? = some (.cells #[.string (clsS arr), .pointer none, .bool fx, .nilIface, .int .i64 1, .pointer (some ⟨F.S, 0, none⟩), F.nv, .slice none 0 0, F.st, .bool false] 111 (0, 0))
  shp : w.heap[F.S]? = some (.cells #[.pointer (some ⟨F.N, 0, none⟩), .int .i64 (L.length : Int), F.fr, F.nx, .bool F.al, .bool false] 118 (0, 0))
  leaf : F.al = false → F.nx = .map none
  nms : NamesAt w n0 F.N F.M F.q F.v F.k L
  prs : w.ownsRow n0 75 10 F.nv P.length (prsL P)
  str : StAt w F.st F.m f
  sep : ∀ X, F.st = .map (some X) → X ≠ F.M ∧ n0 ≤ X
  full : F.st ≠ .map none → ∃ k, (f k).isSome = true
  len : P.length = L.length
  nd : L.Nodup
  ok : ∀ x ∈ L, NameOK x ∧ x.size ≤ 2000000
  lo : n0 ≤ O ∧ n0 ≤ H ∧ n0 ≤ b ∧ n0 ≤ F.S ∧ n0 ≤ F.N ∧ n0 ≤ F.M
  bL : L.length ≤ 100
  bq : F.q ≤ 200
  bm : F.m ≤ 10000
  ql : L.length ≤ F.q
  n0w : n0 ≤ w.heap.size
theorem FSt.lt {w : World} {n0 O H b : Nat} {arr fx : Bool} {L : List ByteArray} {P : List Pr} {f : Nat → Option Pr} {F : Fp} (h : FSt w n0 O H b arr fx L P f F) : ∀ i ∈ F.blocks O H b, n0 ≤ i ∧ i < w.heap.size := by
  intro i hi
  obtain ⟨l1, l2, l3, l4, l5, l6⟩ := h.lo
  simp only [Fp.blocks, List.mem_cons, List.mem_append] at hi
  rcases hi with rfl | rfl | rfl | rfl | rfl | rfl | ((hi | hi) | hi) | hi
  · exact ⟨l1, lt_get h.face⟩
  · exact ⟨l2, lt_get h.heap⟩
  · exact ⟨l3, lt_get h.obj⟩
  · exact ⟨l4, lt_get h.shp⟩
  · exact ⟨l5, lt_get h.nms.1⟩
  · exact ⟨l6, h.nms.2.2.lt⟩
  · exact h.row.lt i (by simpa using hi)
  · exact h.nms.2.1.lt i (by simpa using hi)
  · exact h.prs.lt i (by simpa using hi)
  · rcases h.str with ⟨e, _⟩ | ⟨X, e, hX⟩
    · rw [e] at hi; simp [stB] at hi
    · rw [e] at hi
      simp [stB] at hi
      subst hi
      exact ⟨(h.sep _ e).2, hX.lt⟩
theorem FSt.kept {w w' : World} {n0 O H b : Nat} {arr fx : Bool} {L : List ByteArray} {P : List Pr} {f : Nat → Option Pr} {F : Fp} (h : FSt w n0 O H b arr fx L P f F) {T : List Nat} (hk : Kx T w w') (hT : ∀ i ∈ F.blocks O H b, i ∉ T) : FSt w' n0 O H b arr fx L P f F := by
  have hm : ∀ i, (i = O ∨ i = H ∨ i = b ∨ i = F.S ∨ i = F.N ∨ i = F.M) → i ∉ T := fun i hi => hT i (by simp only [Fp.blocks, List.mem_cons]; rcases hi with h | h | h | h | h | h <;> simp [h])
  exact { h with
    face := hk.get h.face (hm _ (by simp))
    heap := hk.get h.heap (hm _ (by simp))
    row := hk.owns h.row (fun g hg => hT g (by simp [Fp.blocks, hg]))
    obj := hk.get h.obj (hm _ (by simp))
    shp := hk.get h.shp (hm _ (by simp))
    nms := h.nms.kept hk (hm _ (by simp)) (hm _ (by simp)) (fun g hg => hT g (by simp [Fp.blocks, hg]))
    prs := hk.owns h.prs (fun g hg => hT g (by simp [Fp.blocks, hg]))
    str := hk.stAt h.str (fun i hi => hT i (by simp [Fp.blocks, hi]))
    n0w := Nat.le_trans h.n0w hk.size }
theorem FSt.kept0 {w w' : World} {n0 O H b : Nat} {arr fx : Bool} {L : List ByteArray} {P : List Pr} {f : Nat → Option Pr} {F : Fp} (h : FSt w n0 O H b arr fx L P f F) (hk : Kx [] w w') : FSt w' n0 O H b arr fx L P f F := h.kept hk (fun i _ => by simp)
theorem FSt.objs {w : World} {n0 O H b : Nat} {arr fx : Bool} {L : List ByteArray} {P : List Pr} {f : Nat → Option Pr} {F : Fp} (h : FSt w n0 O H b arr fx L P f F) : Objs w H [b] := by
  obtain ⟨g, cap, e⟩ := ownsRow_pos (by omega) h.row
  refine ⟨by simp, .inr ⟨by simp, g, cap, ?_, ?_⟩⟩
  · rw [cell_at h.heap 0 rfl, e]
    rfl
  · intro i x hx
    have hi : i = 0 := by
      cases i with
      | zero => rfl
      | succ i => simp at hx
    subst hi
    simp at hx
    subst hx
    refine ⟨?_, cell_at h.obj 4 rfl⟩
    have := h.row.cells (g := g) (by rw [e]; rfl) 0 (ptrV b) rfl
    rw [Addr.add_lit, Nat.zero_add] at this
    exact this
theorem FSt.O0 {w : World} {n0 O H b : Nat} {arr fx : Bool} {L : List ByteArray} {P : List Pr} {f : Nat → Option Pr} {F : Fp} (h : FSt w n0 O H b arr fx L P f F) : w.cell? ⟨O, 0, none⟩ = some (.pointer (some ⟨H, 0, none⟩)) := cell_at h.face 0 rfl
/-- All blocks are apart: by their kinds, and by what is held. -/
theorem FSt.ne {w : World} {n0 O H b : Nat} {arr fx : Bool} {L : List ByteArray} {P : List Pr} {f : Nat → Option Pr} {F : Fp} (h : FSt w n0 O H b arr fx L P f F) :
    (∀ g, F.nv.ownBlock = some g → g ≠ O ∧ g ≠ H ∧ g ≠ b ∧ g ≠ F.S ∧ g ≠ F.N ∧ g ≠ F.M ∧ (∀ x, F.hv.ownBlock = some x → g ≠ x) ∧ (∀ x, F.v.ownBlock = some x → g ≠ x) ∧ (∀ X, F.st = .map (some X) → g ≠ X)) ∧
    b ≠ O ∧ b ≠ H ∧ b ≠ F.S ∧ b ≠ F.N ∧ b ≠ F.M ∧ (∀ x, F.hv.ownBlock = some x → b ≠ x) ∧ (∀ x, F.v.ownBlock = some x → b ≠ x) ∧ (∀ X, F.st = .map (some X) → b ≠ X) ∧
    (∀ X, F.st = .map (some X) → X ≠ O ∧ X ≠ H ∧ X ≠ F.S ∧ X ≠ F.N ∧ X ≠ F.M ∧ (∀ x, F.hv.ownBlock = some x → X ≠ x) ∧ (∀ x, F.v.ownBlock = some x → X ≠ x)) := by
  have hM : ∀ {x : Nat} {C : Array Value} {t : TypeId} {g : Nat × Nat}, w.heap[x]? = some (.cells C t g) → x ≠ F.M := fun hx => imap_cells h.nms.2.2 hx
  have rowC : ∀ {e : TypeId} {sz : Nat} {v : Value} {n : Nat} {xs : List Value}, w.ownsRow n0 e sz v n xs → ∀ g, v.ownBlock = some g → ∃ cur, w.heap[g]? = some (.cells cur e (0, 0)) := by
    intro e sz v n xs ho g hg
    rcases ho.2 with ⟨e1, _⟩ | ⟨g2, cap, cur, e1, _, hq, _⟩
    · rw [e1] at hg; cases hg
    · rw [e1] at hg
      have : g2 = g := by simpa [Value.ownBlock] using hg
      exact ⟨cur, this ▸ hq⟩
  have hX : ∀ X, F.st = .map (some X) → ∀ {x : Nat} {C : Array Value} {t : TypeId} {g : Nat × Nat}, w.heap[x]? = some (.cells C t g) → x ≠ X := by
    intro X e x C t g hx
    rcases h.str with ⟨e2, _⟩ | ⟨X2, e2, hm⟩
    · rw [e] at e2; cases e2
    · rw [e] at e2
      cases e2
      exact smap_cells hm hx
  refine ⟨?_, cells_ne h.obj h.face (by decide), cells_ne h.obj h.heap (by decide), cells_ne h.obj h.shp (by decide), cells_ne h.obj h.nms.1 (by decide), hM h.obj, ?_, ?_, fun X e => hX X e h.obj, ?_⟩
  · intro g hg
    obtain ⟨cur, hc⟩ := rowC h.prs g hg
    refine ⟨cells_ne hc h.face (by decide), cells_ne hc h.heap (by decide), cells_ne hc h.obj (by decide), cells_ne hc h.shp (by decide), cells_ne hc h.nms.1 (by decide), hM hc, ?_, ?_, fun X e => hX X e hc⟩
    · intro x hx
      obtain ⟨c2, hc2⟩ := rowC h.row x hx
      exact cells_ne hc hc2 (by decide)
    · intro x hx
      obtain ⟨c2, hc2⟩ := rowC h.nms.2.1 x hx
      exact cells_ne hc hc2 (by decide)
  · intro x hx
    obtain ⟨c2, hc2⟩ := rowC h.row x hx
    exact cells_ne h.obj hc2 (by decide)
  · intro x hx
    obtain ⟨c2, hc2⟩ := rowC h.nms.2.1 x hx
    exact cells_ne h.obj hc2 (by decide)
  · intro X e
    refine ⟨(hX X e h.face).symm, (hX X e h.heap).symm, (hX X e h.shp).symm, (hX X e h.nms.1).symm, (h.sep X e).1, ?_, ?_⟩
    · intro x hx
      obtain ⟨c2, hc2⟩ := rowC h.row x hx
      exact (hX X e hc2).symm
    · intro x hx
      obtain ⟨c2, hc2⟩ := rowC h.nms.2.1 x hx
      exact (hX X e hc2).symm
end Go.Proofs.YtmicdbplkfdfnaaGreatDoor
set_option linter.unusedVariables false
namespace Go.Proofs.YtmicdbplkfdfnaaGreatDoor
open Go.RowKit Go.Shelf

theorem objP_at {l : List Nat} {i b : Nat} (h : l[i]? = some b) : objP l ((i : Int) + 1) = .pointer (some ⟨b, 0, none⟩) := by
  have e : ((i : Int) + 1 - 1).toNat = i := by omega
  unfold objP
  rw [if_pos (by omega), e, h]
set_option maxRecDepth 100000 in
set_option maxHeartbeats 2000000 in
theorem fix_one (O H : Nat) (l : List Nat) (i b : Nat) (fx : Bool) (w : World) (hO : w.cell? ⟨O, 0, none⟩ = some (.pointer (some ⟨H, 0, none⟩))) (hl : Objs w H l) (hi : l[i]? = some b) (h2 : w.cell? ⟨b, 2, none⟩ = some (.bool fx)) (hf : w.frozen? ⟨b, 2, none⟩ = false) :
    Calls Tryz.prog 24 #[.pointer (some ⟨O, 0, none⟩), .int .i64 ((i : Int) + 1)] w fun e w' => e = .returned .nilIface ∧ w' = w.setCell ⟨b, 2, none⟩ (.bool true) := by
  have c := numbered_any H l ((i : Int) + 1) w hl
  rw [objP_at hi] at c
  clear hl hi
  go_enter Tryz.func24, Tryz.ntmps24
  go_wp2_with (first | (go_at_call 21; refine c.mono ?_; rintro e w1 ⟨rfl, rfl⟩))
  go_ret
  exact ⟨rfl, rfl⟩
set_option maxRecDepth 100000 in
set_option maxHeartbeats 2000000 in
theorem fix_law (O H : Nat) (l : List Nat) (i b : Nat) (fx : Bool) (w : World) (hO : w.cell? ⟨O, 0, none⟩ = some (.pointer (some ⟨H, 0, none⟩))) (hl : Objs w H l) (hi : l[i]? = some b) (h2 : w.cell? ⟨b, 2, none⟩ = some (.bool fx)) (hf : w.frozen? ⟨b, 2, none⟩ = false) :
    Calls Tryz.prog 9 #[.pointer (some ⟨O, 0, none⟩), .int .i64 ((i : Int) + 1)] w fun e w' => e = .returned (.int .i64 0) ∧ Kx [] (w.setCell ⟨b, 2, none⟩ (.bool true)) w' := by
  have c := fix_one O H l i b fx w hO hl hi h2 hf
  have c1 := number_nil (w.setCell ⟨b, 2, none⟩ (.bool true))
  clear hl hi hO h2 hf
  go_enter Tryz.func9, Tryz.ntmps9
  go_wp2_with (first | (go_at_call 24; refine c.mono ?_; rintro e w1 ⟨rfl, rfl⟩) | (go_at_call 19; refine c1.mono ?_; rintro e w2 ⟨rfl, hk⟩))
  go_ret
  exact ⟨rfl, hk⟩
set_option maxRecDepth 100000 in
set_option maxHeartbeats 2000000 in
theorem length_arr (b g n c : Nat) (w : World) (h0 : w.cell? ⟨b, 0, none⟩ = some (.string ⟨#[65, 114, 114, 97, 121]⟩)) (h6 : w.cell? ⟨b, 6, none⟩ = some (.slice (some ⟨g, 0, none⟩) n c)) (hn : 0 < n) (hn2 : n < 1000000) :
    Calls Tryz.prog 70 #[.pointer (some ⟨b, 0, none⟩)] w fun e w' => e = .returned (.pointer (some ⟨g, 4, none⟩)) ∧ w' = w := by
  go_enter Tryz.func70, Tryz.ntmps70
  go_wp2
  go_ret
  exact ⟨rfl, rfl⟩
end Go.Proofs.YtmicdbplkfdfnaaGreatDoor
set_option linter.unusedVariables false
namespace Go.Proofs.YtmicdbplkfdfnaaGreatDoor
open Go.RowKit Go.Shelf Go.Maps

theorem info118 : ∃ j, Tryz.prog.info? 118 = some j ∧ j.size ≠ 0 := by
  have h : (Tryz.prog.info? 118).map (fun i => i.size) = some 6 := by kernel_rfl
  cases hj : Tryz.prog.info? 118 with
  | none => rw [hj] at h; cases h
  | some j =>
    rw [hj] at h
    simp at h
    exact ⟨j, rfl, by omega⟩
theorem und87 : Tryz.prog.underlying 87 = some (.pointer 118) := by kernel_rfl
theorem ptr_ne87 {a b : Nat} (h : a ≠ b) {W : World} {ca cb : Array Value} {ta tb : TypeId} (ha : W.heap[a]? = some (.cells ca ta (0, 0))) (hb : W.heap[b]? = some (.cells cb tb (0, 0))) : (binOp .eql 87 (.pointer (some ⟨a, 0, none⟩)) (.pointer (some ⟨b, 0, none⟩))).run Tryz.prog W = .ok (.bool false) W := by
  obtain ⟨j, h1, h2⟩ := info118
  exact run_eql_ptr_other W und87 h1 h2 (fun hc => h (congrArg Addr.block hc)) ha hb
theorem ptr_eq87 (a : Nat) (W : World) : (binOp .eql 87 (.pointer (some ⟨a, 0, none⟩)) (.pointer (some ⟨a, 0, none⟩))).run Tryz.prog W = .ok (.bool true) W := by
  obtain ⟨j, h1, h2⟩ := info118
  exact run_eql_ptr_same W _ und87 h1
set_option maxHeartbeats 2000000 in
theorem length_no (b : Nat) (C : ByteArray) (w : World) (h0 : w.cell? ⟨b, 0, none⟩ = some (.string C)) (hC : (C.toList == [65, 114, 114, 97, 121]) = false) :
    Calls Tryz.prog 70 #[.pointer (some ⟨b, 0, none⟩)] w fun e w' => e = .returned (.pointer none) ∧ w' = w := by
  go_enter Tryz.func70, Tryz.ntmps70
  go_wp2
  go_ret
  exact ⟨rfl, rfl⟩

set_option maxRecDepth 100000 in
set_option maxHeartbeats 2000000 in
theorem takes_no (b : Nat) (C : ByteArray) (fx : Bool) (nm : ByteArray) (pl : Int) (isP : Bool) (w : World) (h0 : w.cell? ⟨b, 0, none⟩ = some (.string C)) (hC : (C.toList == [65, 114, 114, 97, 121]) = false) (h2 : w.cell? ⟨b, 2, none⟩ = some (.bool fx)) (hb : b < w.heap.size) :
    Calls Tryz.prog 68 #[.pointer (some ⟨b, 0, none⟩), .agg #[.string nm, .int .u32 pl, .bool isP]] w fun e w' => e = .returned (.bool (!fx)) ∧ Kx [] w w' := by
  have h0' : (w.alloc (Obj.cells #[.string nm, .int .u32 pl, .bool isP] 67)).cell? ⟨b, 0, none⟩ = some (.string C) := by rw [World.cell?_alloc_some _ _ _ (by rw [h0]; rfl)]; exact h0
  have c := length_no b C (w.alloc (Obj.cells #[.string nm, .int .u32 pl, .bool isP] 67)) h0' hC
  have hk : Hid (Kx [] w (w.alloc (Obj.cells #[.string nm, .int .u32 pl, .bool isP] 67))) := (show Kx [] w _ from Kx.alloc _ _ _)
  clear hC h0'
  obtain ⟨W0, hW0⟩ : ∃ W0, W0 = w.alloc (Obj.cells #[.string nm, .int .u32 pl, .bool isP] 67) := ⟨_, rfl⟩
  cases fx with
  | false =>
    go_enter Tryz.func68, Tryz.ntmps68
    go_wp2_with (first | (go_at_call 70; refine c.mono ?_; rintro e w1 ⟨rfl, rfl⟩))
    rw [← hW0] at hk ⊢
    clear hW0 c
    go_quiet (fail)
    go_wp2
    go_ret
    exact ⟨rfl, hk.out.drw _⟩
  | true =>
    go_enter Tryz.func68, Tryz.ntmps68
    go_wp2
    go_ret
    exact ⟨rfl, hk.out⟩

set_option maxRecDepth 100000 in
set_option maxHeartbeats 2000000 in
theorem alike_any (a b Sa Sb : Nat) (al : Bool) (w : World) (ha : w.cell? ⟨a, 5, none⟩ = some (.pointer (some ⟨Sa, 0, none⟩))) (hb : w.cell? ⟨b, 5, none⟩ = some (.pointer (some ⟨Sb, 0, none⟩))) (hS : w.cell? ⟨Sa, 4, none⟩ = some (.bool al)) (ca cb : Array Value) (hA : w.heap[Sa]? = some (.cells ca 118 (0, 0))) (hB : w.heap[Sb]? = some (.cells cb 118 (0, 0))) :
    Calls Tryz.prog 30 #[.pointer (some ⟨a, 0, none⟩), .pointer (some ⟨b, 0, none⟩)] w fun e w' => e = .returned (.bool (decide (Sa = Sb) && !al)) ∧ ∃ q, w' = w.drewN q := by
  by_cases h : Sa = Sb
  · subst h
    rw [decide_eq_true rfl, Bool.true_and]
    have he := ptr_eq87 Sa
    clear hA hB
    cases al <;>
    · go_enter Tryz.func30, Tryz.ntmps30
      go_wp2
      go_quiet (fail)
      go_wp2
      go_ret
      exact ⟨rfl, _, rfl⟩
  · rw [decide_eq_false h, Bool.false_and]
    have he : ∀ q, (binOp .eql 87 (.pointer (some ⟨Sa, 0, none⟩)) (.pointer (some ⟨Sb, 0, none⟩))).run Tryz.prog (w.drewN q) = .ok (.bool false) (w.drewN q) := fun q => ptr_ne87 h (show (w.drewN q).heap[Sa]? = _ from hA) (show (w.drewN q).heap[Sb]? = _ from hB)
    clear hA hB
    go_enter Tryz.func30, Tryz.ntmps30
    go_wp2
    go_quiet (fail)
    go_wp2
    go_ret
    exact ⟨rfl, _, rfl⟩
set_option maxRecDepth 100000 in
set_option maxHeartbeats 2000000 in
theorem same_any (O H : Nat) (l : List Nat) (r q : Int) (a b Sa Sb : Nat) (al : Bool) (w : World) (hO : w.cell? ⟨O, 0, none⟩ = some (.pointer (some ⟨H, 0, none⟩))) (hH : Objs w H l) (hr1 : 1 ≤ r) (hr : l[(r - 1).toNat]? = some a) (hq1 : 1 ≤ q) (hq : l[(q - 1).toNat]? = some b)
    (ha : w.cell? ⟨a, 5, none⟩ = some (.pointer (some ⟨Sa, 0, none⟩))) (hb : w.cell? ⟨b, 5, none⟩ = some (.pointer (some ⟨Sb, 0, none⟩))) (hS : w.cell? ⟨Sa, 4, none⟩ = some (.bool al)) (ca cb : Array Value) (hA : w.heap[Sa]? = some (.cells ca 118 (0, 0))) (hB : w.heap[Sb]? = some (.cells cb 118 (0, 0))) :
    Calls Tryz.prog 14 #[.pointer (some ⟨O, 0, none⟩), .int .i64 r, .int .i64 q] w fun e w' => e = .returned (.bool (decide (Sa = Sb) && !al)) ∧ ∃ q, w' = w.drewN q := by
  have c1 := fun (k : Nat) (n : Int) => numbered_any H l n (w.drewN k) hH
  have E1 := objP_hit hr1 hr
  have E2 := objP_hit hq1 hq
  obtain ⟨f, hf⟩ : ∃ f : Int → Value, f = objP l := ⟨_, rfl⟩
  rw [← hf] at c1 E1 E2
  have c3 := fun k => alike_any a b Sa Sb al (w.drewN k) ha hb hS ca cb hA hB
  generalize (decide (Sa = Sb) && !al) = R at *
  clear ha hb hS hA hB hH hr hq hr1 hq1 hf
  have HE := (show Hid _ from And.intro E1 E2)
  clear E1 E2
  go_enter Tryz.func14, Tryz.ntmps14
  go_wp2
  go_quiet (first | (go_at_call 21; exact Calls.quiet_of_same (c1 _ _)))
  obtain ⟨E1, E2⟩ := HE.out
  rw [E1, E2]
  clear E1 E2 HE
  go_wp2_with (first | (go_at_call 30; refine (c3 nq).mono ?_; rintro e w1 ⟨rfl, k, rfl⟩))
  go_ret
  exact ⟨rfl, _, rfl⟩
end Go.Proofs.YtmicdbplkfdfnaaGreatDoor
set_option linter.unusedVariables false
namespace Go.Proofs.YtmicdbplkfdfnaaGreatDoor
open Go.RowKit Go.Shelf

set_option maxRecDepth 100000 in
set_option maxHeartbeats 2000000 in
theorem takes_fixed (b : Nat) (nm : ByteArray) (pl : Int) (isP : Bool) (w : World) (h2 : w.cell? ⟨b, 2, none⟩ = some (.bool true)) :
    Calls Tryz.prog 68 #[.pointer (some ⟨b, 0, none⟩), .agg #[.string nm, .int .u32 pl, .bool isP]] w fun e w' => e = .returned (.bool false) ∧ Kx [] w w' := by
  have h2' : ∀ o, (w.alloc o).cell? ⟨b, 2, none⟩ = some (.bool true) := fun o => by rw [World.cell?_alloc_some _ _ _ (by rw [h2]; rfl)]; exact h2
  go_enter Tryz.func68, Tryz.ntmps68
  go_wp2
  go_ret
  exact ⟨rfl, Kx.alloc _ _ _⟩
set_option maxRecDepth 100000 in
set_option maxHeartbeats 2000000 in
theorem takes_arr (b g n c : Nat) (nm : ByteArray) (pl : Int) (isP wr lt : Bool) (x y : Nat) (w : World) (h0 : w.cell? ⟨b, 0, none⟩ = some (.string ⟨#[65, 114, 114, 97, 121]⟩)) (h6 : w.cell? ⟨b, 6, none⟩ = some (.slice (some ⟨g, 0, none⟩) n c)) (hn : 0 < n) (hn2 : n < 1000000) (h2 : w.cell? ⟨b, 2, none⟩ = some (.bool false))
    (hw : w.cell? ⟨g, 0, none⟩ = some (.bool wr)) (hx : w.cell? ⟨g, 5, none⟩ = some (.float .f64 x)) (hy : ∀ W, (convert 65 30 (.int .u32 pl)).run Tryz.prog W = .ok (.float .f64 y) W) (hlt : (FloatKind.f64.format.order y x == some Ordering.lt) = lt) :
    Calls Tryz.prog 68 #[.pointer (some ⟨b, 0, none⟩), .agg #[.string nm, .int .u32 pl, .bool isP]] w fun e w' => e = .returned (.bool (!isP || lt || wr)) ∧ Kx [] w w' := by
  obtain ⟨W0, hW0⟩ : ∃ W0, W0 = w.alloc (Obj.cells #[.string nm, .int .u32 pl, .bool isP] 67) := ⟨_, rfl⟩
  have hk : Kx [] w W0 := by rw [hW0]; exact Kx.alloc _ _ _
  have g0 := hk.cell h0 (by simp)
  have g6 := hk.cell h6 (by simp)
  have g2 := hk.cell h2 (by simp)
  have gw := hk.cell hw (by simp)
  have gx := hk.cell hx (by simp)
  have hB : W0.heap[w.heap.size]? = some (Obj.cells #[.string nm, .int .u32 pl, .bool isP] 67 (0, 0)) := by rw [hW0]; exact heap_alloc_new _ _
  have k0 := cell_at hB 0 rfl
  have k1 := cell_at hB 1 rfl
  have k2 := cell_at hB 2 rfl
  have cl := length_arr b g n c W0 g0 g6 hn hn2
  have HK := (show Hid (Kx [] w W0) from hk)
  have HH := (show Hid (W0.cell? ⟨b, 6, none⟩ = some (.slice (some ⟨g, 0, none⟩) n c) ∧ W0.cell? ⟨g, 0, none⟩ = some (.bool wr) ∧ W0.cell? ⟨g, 5, none⟩ = some (.float .f64 x) ∧ W0.cell? ⟨w.heap.size, 0, none⟩ = _ ∧ W0.cell? ⟨w.heap.size, 1, none⟩ = _ ∧ W0.cell? ⟨w.heap.size, 2, none⟩ = _) from ⟨g6, gw, gx, k0, k1, k2⟩)
  have HY := (show Hid ((∀ W, (convert 65 30 (.int .u32 pl)).run Tryz.prog W = .ok (.float .f64 y) W) ∧ (FloatKind.f64.format.order y x == some Ordering.lt) = lt) from ⟨hy, hlt⟩)
  clear hk h0 h6 h2 hw hx hB g0 g6 gw gx k0 k1 k2 hy hlt
  rw [hW0] at cl g2
  go_enter Tryz.func68, Tryz.ntmps68
  go_wp2_with (first | (go_at_call 70; refine cl.mono ?_; rintro e w1 ⟨rfl, rfl⟩))
  rw [← hW0]
  clear hW0 cl g2
  obtain ⟨g6, gw, gx, k0, k1, k2⟩ := HH.out
  obtain ⟨hy, hlt⟩ := HY.out
  clear HH HY
  cases isP <;> cases lt <;> cases wr <;>
  · go_quiet (fail)
    go_wp2
    go_ret
    exact ⟨rfl, HK.out.drw _⟩
end Go.Proofs.YtmicdbplkfdfnaaGreatDoor
set_option linter.unusedVariables false
namespace Go.Proofs.YtmicdbplkfdfnaaGreatDoor
open Go.RowKit Go.Shelf Go.Maps

attribute [local go_sem] run_store_flt
set_option maxRecDepth 100000 in
set_option maxHeartbeats 2000000 in
theorem own_no (b S : Nat) (nm : ByteArray) (n i : Int) (w : World) (h5 : w.cell? ⟨b, 5, none⟩ = some (.pointer (some ⟨S, 0, none⟩)))
    (cf : ∀ W, Kx [] w W → Calls Tryz.prog 51 #[.pointer (some ⟨S, 0, none⟩), .string nm] W fun e w' => e = .returned (.tuple #[.int .i64 i, .bool false]) ∧ ∃ q, w' = W.drewN q) :
    Calls Tryz.prog 25 #[.pointer (some ⟨b, 0, none⟩), .agg #[.string nm, .int .u32 n, .bool false]] w fun e w' => e = .returned (.tuple #[noP, .bool false]) ∧ Kx [] w w' := by
  obtain ⟨W0, hW0⟩ : ∃ W0, W0 = (w.alloc (Obj.cells #[.string nm, .int .u32 n, .bool false] 67)).alloc (Obj.cells #[.bool false, .bool false, .bool false, .bool false, .int .i64 0, .float .f64 0, .string ⟨#[]⟩, .pointer none, .pointer none, .pointer none] 75) := ⟨_, rfl⟩
  have h5' : W0.cell? ⟨b, 5, none⟩ = some (.pointer (some ⟨S, 0, none⟩)) := by
    have e : (w.alloc (Obj.cells #[.string nm, .int .u32 n, .bool false] 67)).cell? ⟨b, 5, none⟩ = some (.pointer (some ⟨S, 0, none⟩)) := by rw [World.cell?_alloc_some _ _ _ (by rw [h5]; rfl)]; exact h5
    rw [hW0, World.cell?_alloc_some _ _ _ (by rw [e]; rfl)]; exact e
  have k2 : W0.cell? ⟨w.heap.size, 2, none⟩ = some (.bool false) := by
    have h := heap_old (heap_alloc_new w (Obj.cells #[.string nm, .int .u32 n, .bool false] 67)) (Obj.cells #[.bool false, .bool false, .bool false, .bool false, .int .i64 0, .float .f64 0, .string ⟨#[]⟩, .pointer none, .pointer none, .pointer none] 75)
    rw [← hW0] at h
    simp [World.cell?, h]
  have k0 : W0.cell? ⟨w.heap.size, 0, none⟩ = some (.string nm) := by
    have h := heap_old (heap_alloc_new w (Obj.cells #[.string nm, .int .u32 n, .bool false] 67)) (Obj.cells #[.bool false, .bool false, .bool false, .bool false, .int .i64 0, .float .f64 0, .string ⟨#[]⟩, .pointer none, .pointer none, .pointer none] 75)
    rw [← hW0] at h
    simp [World.cell?, h]
  have hk : Kx [] w W0 := by rw [hW0]; exact (show Kx [] w _ from (Kx.alloc _ _ _).alc _)
  have hR : W0.heap[w.heap.size + 1]? = some (Obj.cells #[.bool false, .bool false, .bool false, .bool false, .int .i64 0, .float .f64 0, .string ⟨#[]⟩, .pointer none, .pointer none, .pointer none] 75 (0, 0)) := by rw [hW0]; exact heap_alloc2_new _ _ _
  have HR := (show Hid _ from hR)
  have HK := (show Hid _ from hk)
  have CF := (show Hid _ from cf)
  unfold noP at *
  rw [hW0] at k0 k2 h5'
  clear h5 hR hk cf
  go_enter Tryz.func25, Tryz.ntmps25
  go_wp2
  rw [← hW0] at k0 k2 h5' ⊢
  clear hW0
  go_quiet (first | (go_at_call 51; exact Calls.quiet_of (CF.out _ (HK.out.drw _))))
  have hR : (W0.drewN nq).heap[w.heap.size + 1]? = some (Obj.cells #[.bool false, .bool false, .bool false, .bool false, .int .i64 0, .float .f64 0, .string ⟨#[]⟩, .pointer none, .pointer none, .pointer none] 75 (0, 0)) := HR.out
  have HK1 : Hid (Kx [] w (W0.drewN nq)) := (show Kx [] w (W0.drewN nq) from HK.out.drw nq)
  clear HR HK CF k0 k2 h5'
  obtain ⟨w1, hw1⟩ : ∃ w1, w1 = W0.drewN nq := ⟨_, rfl⟩
  rw [← hw1] at hR HK1 ⊢
  clear hw1
  have cR0 : w1.cell? ⟨w.heap.size + 1, 0, none⟩ = some (.bool false) := by simp [World.cell?, hR]
  have fR0 : w1.frozen? ⟨w.heap.size + 1, 0, none⟩ = false := by simp [World.frozen?, hR]
  have cR1 : w1.cell? ⟨w.heap.size + 1, 1, none⟩ = some (.bool false) := by simp [World.cell?, hR]
  have fR1 : w1.frozen? ⟨w.heap.size + 1, 1, none⟩ = false := by simp [World.frozen?, hR]
  have cR2 : w1.cell? ⟨w.heap.size + 1, 2, none⟩ = some (.bool false) := by simp [World.cell?, hR]
  have fR2 : w1.frozen? ⟨w.heap.size + 1, 2, none⟩ = false := by simp [World.frozen?, hR]
  have cR3 : w1.cell? ⟨w.heap.size + 1, 3, none⟩ = some (.bool false) := by simp [World.cell?, hR]
  have fR3 : w1.frozen? ⟨w.heap.size + 1, 3, none⟩ = false := by simp [World.frozen?, hR]
  have cR4 : w1.cell? ⟨w.heap.size + 1, 4, none⟩ = some (.int .i64 0) := by simp [World.cell?, hR]
  have fR4 : w1.frozen? ⟨w.heap.size + 1, 4, none⟩ = false := by simp [World.frozen?, hR]
  have cR5 : w1.cell? ⟨w.heap.size + 1, 5, none⟩ = some (.float .f64 0) := by simp [World.cell?, hR]
  have fR5 : w1.frozen? ⟨w.heap.size + 1, 5, none⟩ = false := by simp [World.frozen?, hR]
  have cR6 : w1.cell? ⟨w.heap.size + 1, 6, none⟩ = some (.string ⟨#[]⟩) := by simp [World.cell?, hR]
  have fR6 : w1.frozen? ⟨w.heap.size + 1, 6, none⟩ = false := by simp [World.frozen?, hR]
  have cR7 : w1.cell? ⟨w.heap.size + 1, 7, none⟩ = some (.pointer none) := by simp [World.cell?, hR]
  have fR7 : w1.frozen? ⟨w.heap.size + 1, 7, none⟩ = false := by simp [World.frozen?, hR]
  have cR8 : w1.cell? ⟨w.heap.size + 1, 8, none⟩ = some (.pointer none) := by simp [World.cell?, hR]
  have fR8 : w1.frozen? ⟨w.heap.size + 1, 8, none⟩ = false := by simp [World.frozen?, hR]
  have cR9 : w1.cell? ⟨w.heap.size + 1, 9, none⟩ = some (.pointer none) := by simp [World.cell?, hR]
  have fR9 : w1.frozen? ⟨w.heap.size + 1, 9, none⟩ = false := by simp [World.frozen?, hR]
  have HR := (show Hid _ from hR)
  clear hR
  go_wp2
  have r1 := heap_set_at (C' := #[.bool false, .bool false, .bool false, .bool false, .int .i64 0, .float .f64 0, .string ⟨#[]⟩, .pointer none, .pointer none, .pointer none]) HR.out 0 (.bool false) rfl
  have r2 := heap_set_at (C' := #[.bool false, .bool false, .bool false, .bool false, .int .i64 0, .float .f64 0, .string ⟨#[]⟩, .pointer none, .pointer none, .pointer none]) r1 1 (.bool false) rfl
  have r3 := heap_set_at (C' := #[.bool false, .bool false, .bool false, .bool false, .int .i64 0, .float .f64 0, .string ⟨#[]⟩, .pointer none, .pointer none, .pointer none]) r2 2 (.bool false) rfl
  have r4 := heap_set_at (C' := #[.bool false, .bool false, .bool false, .bool false, .int .i64 0, .float .f64 0, .string ⟨#[]⟩, .pointer none, .pointer none, .pointer none]) r3 3 (.bool false) rfl
  have r5 := heap_set_at (C' := #[.bool false, .bool false, .bool false, .bool false, .int .i64 0, .float .f64 0, .string ⟨#[]⟩, .pointer none, .pointer none, .pointer none]) r4 4 (.int .i64 0) rfl
  have r6 := heap_set_at (C' := #[.bool false, .bool false, .bool false, .bool false, .int .i64 0, .float .f64 0, .string ⟨#[]⟩, .pointer none, .pointer none, .pointer none]) r5 5 (.float .f64 0) rfl
  have r7 := heap_set_at (C' := #[.bool false, .bool false, .bool false, .bool false, .int .i64 0, .float .f64 0, .string ⟨#[]⟩, .pointer none, .pointer none, .pointer none]) r6 6 (.string ⟨#[]⟩) rfl
  have r8 := heap_set_at (C' := #[.bool false, .bool false, .bool false, .bool false, .int .i64 0, .float .f64 0, .string ⟨#[]⟩, .pointer none, .pointer none, .pointer none]) r7 7 (.pointer none) rfl
  have r9 := heap_set_at (C' := #[.bool false, .bool false, .bool false, .bool false, .int .i64 0, .float .f64 0, .string ⟨#[]⟩, .pointer none, .pointer none, .pointer none]) r8 8 (.pointer none) rfl
  have r10 := heap_set_at (C' := #[.bool false, .bool false, .bool false, .bool false, .int .i64 0, .float .f64 0, .string ⟨#[]⟩, .pointer none, .pointer none, .pointer none]) r9 9 (.pointer none) rfl
  clear r1 r2 r3 r4 r5 r6 r7 r8 r9
  refine bodyPost_ret (results_row_tmp rfl _ _ (w.heap.size + 1) 75 _ (0, 0) _ rfl r10 Tryz.underlying75 rfl (by kernel_rfl) _ rfl) rfl ?_
  exact ⟨rfl, HK1.out.trans (((((((((((Kx.refl [w.heap.size + 1] w1).set (by simp) _).set (by simp) _).set (by simp) _).set (by simp) _).set (by simp) _).set (by simp) _).set (by simp) _).set (by simp) _).set (by simp) _).set (by simp) _) (fun i hi => .inr (by simp at hi; omega))⟩
end Go.Proofs.YtmicdbplkfdfnaaGreatDoor
