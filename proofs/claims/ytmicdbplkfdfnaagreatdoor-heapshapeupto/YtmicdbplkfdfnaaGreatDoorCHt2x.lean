/- The tree of shapes: what find and after do. -/
import Derived.Test.YtmicdbplkfdfnaaGreatDoorCTh2x
import Derived.Test.YtmicdbplkfdfnaaGreatDoorCHo3x
set_option linter.unusedVariables false
namespace Go.Proofs.YtmicdbplkfdfnaaGreatDoor
open Go.RowKit Go.Shelf Go.Maps

theorem pf_get : ∀ (n : Nat) (L : List ByteArray), L.length = n → L.Nodup → ∀ s i, pf L s = some i ↔ L[i]? = some s
  | 0, L, h, _, s, i => by
    rw [List.eq_nil_of_length_eq_zero h, pf_nil]
    simp
  | n + 1, L, h, hd, s, i => by
    rcases List.eq_nil_or_concat L with h1 | ⟨m, y, h1⟩
    · rw [h1] at h; simp at h
    · rw [List.concat_eq_append] at h1
      subst h1
      have hm : m.length = n := by simpa using h
      have hd2 : m.Nodup ∧ y ∉ m := by
        rw [List.nodup_append] at hd
        exact ⟨hd.1, fun hy => hd.2.2 y hy y (by simp) rfl⟩
      rw [pf_snoc]
      have ih := pf_get n m hm hd2.1 s i
      by_cases e : s = y
      · subst e
        simp only [if_true]
        rcases Nat.lt_trichotomy i m.length with hi | hi | hi
        · rw [List.getElem?_append_left hi]
          constructor
          · intro h2
            have := Option.some.inj h2
            omega
          · intro h2
            exact absurd (List.mem_of_getElem? h2) hd2.2
        · rw [hi]
          simp
        · rw [List.getElem?_eq_none (by simp; omega)]
          constructor
          · intro h2
            have := Option.some.inj h2
            omega
          · intro h2
            cases h2
      · simp only [if_neg e, ih]
        rcases Nat.lt_trichotomy i m.length with hi | hi | hi
        · rw [List.getElem?_append_left hi]
        · rw [hi]
          simp
          exact fun h2 => e h2.symm
        · rw [List.getElem?_eq_none (by omega), List.getElem?_eq_none (by simp; omega)]
/-- The shapes of a heap: blocks and paths. -/
def Tree (w : World) (B : Nat) (F : List Nat) (ps : List (Nat × List Stp)) : Prop :=
  ∃ ns ms, Tree0 w B F ns ms ∧ ∀ q, q ∈ ps ↔ ∃ s ∈ ns, q = (s.S, s.path)
theorem Tree.kept {w w' : World} {B : Nat} {F : List Nat} {ps : List (Nat × List Stp)} (h : Tree w B F ps) {T : List Nat} (hk : Kx T w w') (hT : ∀ i ∈ F, i ∉ T) : Tree w' B F ps := by
  obtain ⟨ns, ms, h1, h2⟩ := h
  exact ⟨ns, ms, h1.kept hk hT, h2⟩
theorem Tree.kept0 {w w' : World} {B : Nat} {F : List Nat} {ps : List (Nat × List Stp)} (h : Tree w B F ps) (hk : Kx [] w w') : Tree w' B F ps := h.kept hk (fun _ _ => by simp)
theorem Tree.mono {w : World} {B B' : Nat} {F : List Nat} {ps : List (Nat × List Stp)} (h : Tree w B F ps) (hB : B ≤ B') : Tree w B' F ps := by
  obtain ⟨ns, ms, h1, h2⟩ := h
  exact ⟨ns, ms, h1.mono hB, h2⟩
theorem Tree.low {w : World} {B : Nat} {F : List Nat} {ps : List (Nat × List Stp)} (h : Tree w B F ps) : ∀ i ∈ F, i < w.heap.size := by
  obtain ⟨ns, ms, h1, h2⟩ := h
  exact h1.low
theorem Tree.inj {w : World} {B : Nat} {F : List Nat} {ps : List (Nat × List Stp)} (h : Tree w B F ps) {S S' : Nat} {p p' : List Stp} (h1 : (S, p) ∈ ps) (h2 : (S', p') ∈ ps) : S = S' ↔ p = p' := by
  obtain ⟨ns, ms, h0, hq⟩ := h
  obtain ⟨s, hs, e⟩ := (hq _).1 h1
  obtain ⟨t, ht, e'⟩ := (hq _).1 h2
  simp only [Prod.mk.injEq] at e e'
  obtain ⟨rfl, rfl⟩ := e
  obtain ⟨rfl, rfl⟩ := e'
  exact ⟨fun h3 => by rw [h0.dS s hs t ht h3], fun h3 => by rw [h0.dP s hs t ht h3]⟩
theorem Tree.mem {w : World} {B : Nat} {F : List Nat} {ps : List (Nat × List Stp)} (h : Tree w B F ps) {S : Nat} {p : List Stp} (h1 : (S, p) ∈ ps) : S ∈ F := by
  obtain ⟨ns, ms, h0, hq⟩ := h
  obtain ⟨s, hs, e⟩ := (hq _).1 h1
  simp only [Prod.mk.injEq] at e
  rw [e.1]
  exact h0.fS s hs
theorem Tree.shape {w : World} {B : Nat} {F : List Nat} {ps : List (Nat × List Stp)} (h : Tree w B F ps) {S : Nat} {p : List Stp} (h1 : (S, p) ∈ ps) : ∃ C, w.heap[S]? = some (.cells C 118 (0, 0)) ∧ C[4]? = some (.bool false) := by
  obtain ⟨ns, ms, h0, hq⟩ := h
  obtain ⟨s, hs, e⟩ := (hq _).1 h1
  simp only [Prod.mk.injEq] at e
  obtain ⟨a, b, hc⟩ := h0.shape s hs
  rw [e.1]
  exact ⟨_, hc, rfl⟩
/-- Where names lie: of a shape: the names' block, the map's, and how the names stand there. -/
theorem Tree.names {w : World} {B : Nat} {F : List Nat} {ps : List (Nat × List Stp)} (h : Tree w B F ps) {S : Nat} {p : List Stp} (h1 : (S, p) ∈ ps) :
    ∃ N M n v k L fr nx kp, w.heap[S]? = some (.cells #[.pointer (some ⟨N, 0, none⟩), .int .i64 (p.length : Int), fr, nx, .bool false, .bool kp] 118 (0, 0)) ∧ NamesAt w 0 N M n v k L ∧ nms p <+: L ∧ L.Nodup ∧ L.length ≤ B ∧ n ≤ B ∧ ∀ x ∈ L, x.size ≤ maxLen := by
  obtain ⟨ns, ms, h0, hq⟩ := h
  obtain ⟨s, hs, e⟩ := (hq _).1 h1
  simp only [Prod.mk.injEq] at e
  obtain ⟨rfl, rfl⟩ := e
  obtain ⟨a, b, hc⟩ := h0.shape s hs
  obtain ⟨m, hm, e1, e2⟩ := h0.has s hs
  obtain ⟨n1, n2, n3, n4, n5⟩ := h0.names m hm
  rw [← e1] at hc
  exact ⟨m.N, m.M, m.n, m.v, m.k, m.L, a, _, b, hc, n1, e2, n4, n3, n2, n5⟩
/-- find at a shape of the tree: the name is there. -/
theorem Tree.find_yes {w : World} {B : Nat} {F : List Nat} {ps : List (Nat × List Stp)} (h : Tree w B F ps) {S : Nat} {p : List Stp} (h1 : (S, p) ∈ ps) {i : Nat} {s : ByteArray} (hi : (nms p)[i]? = some s) :
    Calls Tryz.prog 51 #[.pointer (some ⟨S, 0, none⟩), .string s] w fun e w' => e = .returned (.tuple #[.int .i64 (i : Int), .bool true]) ∧ ∃ q, w' = w.drewN q := by
  obtain ⟨N, M, n, v, k, L, fr, nx, kp, a1, a2, a3, a4, a5, a6, a7⟩ := h.names h1
  have hL : L[i]? = some s := by
    obtain ⟨r, rfl⟩ := a3
    rw [List.getElem?_append_left (List.getElem?_eq_some_iff.1 hi).1]
    exact hi
  have hf := (pf_get _ L rfl a4 s i).2 hL
  have hil : i < p.length := by
    have := (List.getElem?_eq_some_iff.1 hi).1
    rwa [nms_len] at this
  have c := find_any S N M n p.length (pf L) s (a7 s (List.mem_of_getElem? hL)) w (cell_at a1 0 rfl) (cell_at a1 1 rfl) (cell_at a2.1 1 rfl) a2.2.2
  rw [hf] at c
  simpa [hil] using c
/-- find at a shape of the tree: the name is not there. -/
theorem Tree.find_no {w : World} {B : Nat} {F : List Nat} {ps : List (Nat × List Stp)} (h : Tree w B F ps) {S : Nat} {p : List Stp} (h1 : (S, p) ∈ ps) {s : ByteArray} (hs : s.size ≤ maxLen) (hi : s ∉ nms p) :
    ∃ z : Int, ∀ W, Kx [] w W → Calls Tryz.prog 51 #[.pointer (some ⟨S, 0, none⟩), .string s] W fun e w' => e = .returned (.tuple #[.int .i64 z, .bool false]) ∧ ∃ q, w' = W.drewN q := by
  obtain ⟨N, M, n, v, k, L, fr, nx, kp, a1, a2, a3, a4, a5, a6, a7⟩ := h.names h1
  refine ⟨(((pf L s).getD 0 : Nat) : Int), fun W hW => ?_⟩
  have a1' := hW.get a1 (by simp)
  have a2' := a2.kept hW (by simp) (by simp) (by simp)
  have c := find_any S N M n p.length (pf L) s hs W (cell_at a1' 0 rfl) (cell_at a1' 1 rfl) (cell_at a2'.1 1 rfl) a2'.2.2
  have e : ((pf L s).isSome && decide ((pf L s).getD 0 < p.length)) = false := by
    cases hc : pf L s with
    | none => rfl
    | some i =>
      have hL := (pf_get _ L rfl a4 s i).1 hc
      simp
      apply Decidable.byContradiction
      intro hlt
      apply hi
      obtain ⟨r, rfl⟩ := a3
      rw [List.getElem?_append_left (by rw [nms_len]; omega)] at hL
      exact List.mem_of_getElem? hL
  rw [e] at c
  exact c
theorem Tree0.grow {W : World} {B : Nat} {F : List Nat} {ns : List Sh} {ms : List Nm} (h : Tree0 W B F ns ms) {s : Sh} (hs : s ∈ ns) (p : Stp) (hno : ∀ t ∈ ns, t.path ≠ s.path ++ [p]) (hp : p.1.size ≤ maxLen) (hnp : p.1 ∉ nms s.path) (hB : B ≤ 900) :
    Calls Tryz.prog 118 #[.pointer (some ⟨s.S, 0, none⟩), stpV p] W fun e w' => (∃ u, e = .returned u) ∧ ∃ S' F' ns' ms' X' nX' f' fr kp, Kx F W w' ∧ (∀ i ∈ F', i ∈ F ∨ W.heap.size ≤ i) ∧ Tree0 w' (B + 1) F' ns' ms' ∧ (∃ t ∈ ns', t.S = S' ∧ t.path = s.path ++ [p]) ∧ (∀ u ∈ ns, ∃ u' ∈ ns', u'.S = u.S ∧ u'.path = u.path) ∧
      w'.heap[s.S]? = some (.cells #[.pointer (some ⟨s.N, 0, none⟩), .int .i64 (s.path.length : Int), fr, .map (some X'), .bool false, .bool kp] 118 (0, 0)) ∧ PMap w' X' nX' f' ∧ f' p = some S' := by
  obtain ⟨m, hm, hsm, hpre⟩ := h.has s hs
  obtain ⟨fr, kp, hS⟩ := h.shape s hs
  obtain ⟨hN, hn, hL, hLd, hLs⟩ := h.names m hm
  rw [← hsm] at hS
  have old : ∀ (t' s' : Sh), s'.S = s.S → s'.path = s.path → ∀ u ∈ ns, ∃ u' ∈ (t' :: s' :: ns.filter (fun u => decide (u.S ≠ s.S))), u'.S = u.S ∧ u'.path = u.path := by
    intro t' s' e1 e2 u hu
    by_cases e : u.S = s.S
    · have := h.dS u hu s hs e
      subst this
      exact ⟨s', by simp, e1, e2⟩
    · exact ⟨u, by simp [hu, e], rfl, rfl⟩
  have hlen := hpre.length_le
  rw [nms_len] at hlen
  have htk : m.L.take s.path.length = nms s.path := by
    have := List.prefix_iff_eq_take.1 hpre
    rw [nms_len] at this
    exact this.symm
  have hfX : ∀ x, s.X = some x → ∃ nX f, nX ≤ B ∧ PMap W x nX f ∧ (∀ q i, f q = some i ↔ ∃ t ∈ ns, t.S = i ∧ t.path = s.path ++ [q]) := fun x hx => h.next s hs x hx
  cases hx : s.X with
  | some x =>
    obtain ⟨nX, f, b1, b2, b3⟩ := hfX x hx
    rw [hx] at hS
    have hxM : m.M ≠ x := fun e => h.dXM s hs x hx m hm e.symm
    have hff : ∀ (S' : Nat) q i, (if q = p then some S' else f q) = some i ↔ (q = p ∧ i = S') ∨ (q ≠ p ∧ ∃ t ∈ ns, t.S = i ∧ t.path = s.path ++ [q]) := by
      intro S' q i
      by_cases e : q = p
      · simp [e]; exact ⟨fun h => h.symm, fun h => h.symm⟩
      · simp [e, b3]
    have hSx : s.S ≠ x := pmap_cells b2 hS
    by_cases hc : m.L.length = s.path.length
    · have hLn : m.L = nms s.path := by rw [← htk, ← hc, List.take_length]
      refine (grow_one s.S m.N m.M m.n 0 s.path.length m.v m.k fr (.map (some x)) false kp m.L p W hS hN hc (by omega) (by omega) hp (Nat.zero_le _) x nX f ⟨rfl, b2⟩ (by omega) hxM).mono ?_
      rintro e w' ⟨hu, S', v', g1, g2, g3, g4, g5, g6⟩
      have hTF : ∀ i ∈ x :: m.N :: m.M :: m.v.ownBlock.toList, i ∈ F := by
        intro i hi
        simp only [List.mem_cons] at hi
        rcases hi with rfl | rfl | rfl | hi
        · exact h.fX s hs _ hx
        · exact h.fN m hm
        · exact h.fM m hm
        · exact h.fR m hm i (by simpa using hi)
      have hSn : s.S ∉ x :: m.N :: m.M :: m.v.ownBlock.toList := by
        simp only [List.mem_cons, not_or]
        exact ⟨hSx, cells_ne hS hN.1 (by decide), imap_cells hN.2.2 hS, row_apart hN.2.1 hS (by decide)⟩
      have hS2 := g6.get hS hSn
      rw [hsm] at hS2
      rw [hLn] at g4
      refine ⟨hu, S', _, _, _, x, _, _, fr, kp, g6.mono (fun i hi => .inl (hTF i hi)), ?_, h.grown (N' := m.N) (M' := m.M) hs hm hsm hpre p hno hp hnp (T := x :: m.N :: m.M :: m.v.ownBlock.toList) ?_ g6 g1 g2 hS2 (.inl hx) g3 (by omega) (hff S') g4 (by omega) (.inl ⟨hsm, rfl, hLn, g5⟩), ⟨_, by simp; exact .inl rfl, rfl, rfl⟩, old _ _ rfl rfl, hS2, g3, by simp⟩
      · intro i hi
        simp only [List.mem_cons, List.mem_append] at hi
        rcases hi with rfl | rfl | rfl | rfl | hi | hi
        · exact .inr g1
        · exact .inl (h.fX s hs _ hx)
        · exact .inl (h.fN m hm)
        · exact .inl (h.fM m hm)
        · rcases g5 i (by simpa using hi) with e | e
          · exact .inl (h.fR m hm i e)
          · exact .inr e
        · exact .inl hi
      · intro i hi
        simp only [List.mem_cons] at hi
        rcases hi with rfl | rfl | rfl | hi
        · exact .inr (.inl hx)
        · exact .inr (.inr ⟨hsm, .inl rfl⟩)
        · exact .inr (.inr ⟨hsm, .inr (.inl rfl)⟩)
        · exact .inr (.inr ⟨hsm, .inr (.inr (by simpa using hi))⟩)
    · refine (growP_one s.S m.N m.M m.n 0 s.path.length m.v m.k fr (.map (some x)) false kp m.L p W hS hN (by omega) hLs (by omega) (by omega) hp (Nat.zero_le _) x nX f ⟨rfl, b2⟩ (by omega) hxM).mono ?_
      rintro e w' ⟨hu, S', N', M', v', g1, g2, g3, g4, g5, g6, g7⟩
      have hS2 := g7.get hS (by simp; exact hSx)
      rw [hsm] at hS2
      rw [htk] at g6
      have hxl := h.low _ (h.fX s hs _ hx)
      refine ⟨hu, S', _, _, _, x, _, _, fr, kp, g7.mono (fun i hi => .inl (by simp at hi; rw [hi]; exact h.fX s hs _ hx)), ?_, h.grown (N' := N') (M' := M') hs hm hsm hpre p hno hp hnp (T := [x]) ?_ g7 g1 g4 hS2 (.inl hx) g5 (by omega) (hff S') (g6.low (Nat.zero_le _)) (by omega) (.inr ⟨g2, g3, by omega, fun g hg => (g6.2.1.lt g hg).1⟩), ⟨_, by simp; exact .inl rfl, rfl, rfl⟩, old _ _ rfl rfl, hS2, g5, by simp⟩
      · intro i hi
        simp only [List.mem_cons, List.mem_append] at hi
        rcases hi with rfl | rfl | rfl | rfl | hi | hi
        · exact .inr g1
        · exact .inl (h.fX s hs _ hx)
        · exact .inr g2
        · exact .inr g3
        · exact .inr (g6.2.1.lt i (by simpa using hi)).1
        · exact .inl hi
      · intro i hi
        simp at hi
        exact .inr (.inl (by rw [hi]; exact hx))
  | none =>
    rw [hx] at hS
    have hff : ∀ (S' : Nat) q i, (if q = p then some S' else none) = some i ↔ (q = p ∧ i = S') ∨ (q ≠ p ∧ ∃ t ∈ ns, t.S = i ∧ t.path = s.path ++ [q]) := by
      intro S' q i
      by_cases e : q = p
      · simp [e]; exact ⟨fun h => h.symm, fun h => h.symm⟩
      · simp [e]
        exact fun t ht _ => h.last s hs hx t ht q
    by_cases hc : m.L.length = s.path.length
    · have hLn : m.L = nms s.path := by rw [← htk, ← hc, List.take_length]
      refine (grow_nil s.S m.N m.M m.n 0 s.path.length m.v m.k fr (.map none) false kp m.L p W hS hN hc (by omega) (by omega) hp (Nat.zero_le _) rfl).mono ?_
      rintro e w' ⟨hu, S', X', v', g1, g2, g3, g4, g5, g6, g7, g8⟩
      have hTF : ∀ i ∈ s.S :: m.N :: m.M :: m.v.ownBlock.toList, i ∈ F := by
        intro i hi
        simp only [List.mem_cons] at hi
        rcases hi with rfl | rfl | rfl | hi
        · exact h.fS s hs
        · exact h.fN m hm
        · exact h.fM m hm
        · exact h.fR m hm i (by simpa using hi)
      rw [hsm] at g3
      rw [hLn] at g6
      refine ⟨hu, S', _, _, _, X', _, _, fr, kp, g8.mono (fun i hi => .inl (hTF i hi)), ?_, h.grown (N' := m.N) (M' := m.M) hs hm hsm hpre p hno hp hnp (T := s.S :: m.N :: m.M :: m.v.ownBlock.toList) ?_ g8 g1 g4 g3 (.inr ⟨hx, g2⟩) g5 (by omega) (hff S') g6 (by omega) (.inl ⟨hsm, rfl, hLn, g7⟩), ⟨_, by simp; exact .inl rfl, rfl, rfl⟩, old _ _ rfl rfl, g3, g5, by simp⟩
      · intro i hi
        simp only [List.mem_cons, List.mem_append] at hi
        rcases hi with rfl | rfl | rfl | rfl | hi | hi
        · exact .inr g1
        · exact .inr g2
        · exact .inl (h.fN m hm)
        · exact .inl (h.fM m hm)
        · rcases g7 i (by simpa using hi) with e | e
          · exact .inl (h.fR m hm i e)
          · exact .inr e
        · exact .inl hi
      · intro i hi
        simp only [List.mem_cons] at hi
        rcases hi with rfl | rfl | rfl | hi
        · exact .inl rfl
        · exact .inr (.inr ⟨hsm, .inl rfl⟩)
        · exact .inr (.inr ⟨hsm, .inr (.inl rfl)⟩)
        · exact .inr (.inr ⟨hsm, .inr (.inr (by simpa using hi))⟩)
    · refine (growP_nil s.S m.N m.M m.n 0 s.path.length m.v m.k fr (.map none) false kp m.L p W hS hN (by omega) hLs (by omega) (by omega) hp (Nat.zero_le _) rfl).mono ?_
      rintro e w' ⟨hu, S', X', N', M', v', g1, g2, g3, g4, g5, g6, g7, g8, g9, g10⟩
      rw [hsm] at g6
      rw [htk] at g9
      refine ⟨hu, S', _, _, _, X', _, _, fr, kp, g10.mono (fun i hi => .inl (by simp at hi; rw [hi]; exact h.fS s hs)), ?_, h.grown (N' := N') (M' := M') hs hm hsm hpre p hno hp hnp (T := [s.S]) ?_ g10 g1 g7 g6 (.inr ⟨hx, g2⟩) g8 (by omega) (hff S') (g9.low (Nat.zero_le _)) (by omega) (.inr ⟨g3, g4, g5, fun g hg => (g9.2.1.lt g hg).1⟩), ⟨_, by simp; exact .inl rfl, rfl, rfl⟩, old _ _ rfl rfl, g6, g8, by simp⟩
      · intro i hi
        simp only [List.mem_cons, List.mem_append] at hi
        rcases hi with rfl | rfl | rfl | rfl | hi | hi
        · exact .inr g1
        · exact .inr g2
        · exact .inr g3
        · exact .inr g4
        · exact .inr (g9.2.1.lt i (by simpa using hi)).1
        · exact .inl hi
      · intro i hi
        simp at hi
        exact .inl hi
/-- after, at a shape of the tree, by a step whose name is not there yet. -/
theorem Tree.after {w : World} {B : Nat} {F : List Nat} {ps : List (Nat × List Stp)} (h : Tree w B F ps) {S : Nat} {pa : List Stp} (h1 : (S, pa) ∈ ps) (p : Stp) (hp : p.1.size ≤ maxLen) (hnp : p.1 ∉ nms pa) (hB : B ≤ 900) :
    Calls Tryz.prog 85 #[.pointer (some ⟨S, 0, none⟩), stpV p] w fun e w' => ∃ S', e = .returned (.pointer (some ⟨S', 0, none⟩)) ∧ Kx F w w' ∧ ∃ F' ps', (∀ i ∈ F', i ∈ F ∨ w.heap.size ≤ i) ∧ Tree w' (B + 1) F' ps' ∧ (S', pa ++ [p]) ∈ ps' ∧ ∀ q ∈ ps, q ∈ ps' := by
  obtain ⟨ns, ms, h0, hq⟩ := h
  obtain ⟨s, hs, e⟩ := (hq _).1 h1
  simp only [Prod.mk.injEq] at e
  obtain ⟨rfl, rfl⟩ := e
  obtain ⟨fr, kp, hS⟩ := h0.shape s hs
  by_cases hit : ∃ t ∈ ns, t.path = s.path ++ [p]
  · obtain ⟨t, ht, hpt⟩ := hit
    cases hx : s.X with
    | none => exact absurd hpt (h0.last s hs hx t ht p)
    | some x =>
      obtain ⟨nX, f, b1, b2, b3⟩ := h0.next s hs x hx
      rw [hx] at hS
      refine (after_hit s.S x nX t.S _ fr _ kp f p w hS b2 hp ((b3 p t.S).2 ⟨t, ht, rfl, hpt⟩)).mono ?_
      rintro e w' ⟨rfl, hk⟩
      exact ⟨t.S, rfl, hk.mono (fun i hi => by cases hi), F, ps, fun i hi => .inl hi, ⟨ns, ms, (h0.kept hk (fun _ _ => by simp)).mono (by omega), hq⟩, (hq _).2 ⟨t, ht, by rw [hpt]⟩, fun q hq => hq⟩
  · have hno : ∀ t ∈ ns, t.path ≠ s.path ++ [p] := fun t ht e => hit ⟨t, ht, e⟩
    refine (after_miss s.S _ fr _ (xV s.X) kp p w (fun S' w1 => Kx F w w1 ∧ ∃ F' ps', (∀ i ∈ F', i ∈ F ∨ w.heap.size ≤ i) ∧ Tree w1 (B + 1) F' ps' ∧ (S', s.path ++ [p]) ∈ ps' ∧ ∀ q ∈ ps, q ∈ ps') hS hp ?_ ?_).mono ?_
    · intro W hW
      cases hx : s.X with
      | none => exact pmap_look_nil p W
      | some x =>
        obtain ⟨nX, f, b1, b2, b3⟩ := h0.next s hs x hx
        have hl := pmap_look (hW.pmap b2 (by simp)) p hp
        have hfn : f p = none := by
          cases hc : f p with
          | none => rfl
          | some i =>
            obtain ⟨t, ht, _, h3⟩ := (b3 p i).1 hc
            exact absurd h3 (hno t ht)
        rw [hfn] at hl
        exact hl
    · intro W hW hP
      refine ((h0.kept hW (fun _ _ => by simp)).grow hs p hno hp hnp hB).mono ?_
      rintro e w' ⟨hu, S', F', ns', ms', X', nX', f', fr', kp', g1, g2, g3, ⟨t, ht, g4, g4'⟩, g5, g6, g7, g8⟩
      refine ⟨hu, S', X', nX', f', _, _, _, _, _, g6, g1.get hP (fun hm => by have := h0.low _ hm; omega), g7, g8, ?_, F', ns'.map (fun s => (s.S, s.path)), ?_, ⟨ns', ms', g3, fun q => ?_⟩, ?_, ?_⟩
      · exact (hW.mono (fun i hi => by cases hi)).same g1
      · intro i hi
        rcases g2 i hi with e | e
        · exact .inl e
        · exact .inr (Nat.le_trans hW.size e)
      · simp only [List.mem_map]
        exact ⟨fun ⟨s, h1, h2⟩ => ⟨s, h1, h2.symm⟩, fun ⟨s, h1, h2⟩ => ⟨s, h1, h2.symm⟩⟩
      · exact List.mem_map.2 ⟨t, ht, by rw [g4, g4']⟩
      · intro q hq1
        obtain ⟨u, hu1, rfl⟩ := (hq q).1 hq1
        obtain ⟨u', a1, a2, a3⟩ := g5 u hu1
        exact List.mem_map.2 ⟨u', a1, by rw [a2, a3]⟩
    · rintro e w' ⟨S', w1, q, rfl, ⟨k1, F', ps', k2, k3, k4⟩, rfl⟩
      exact ⟨S', rfl, k1.drw q, F', ps', k2, k3.kept0 (Kx.drewN _ _ _), k4⟩
end Go.Proofs.YtmicdbplkfdfnaaGreatDoor
namespace Go.Proofs.YtmicdbplkfdfnaaGreatDoor
end Go.Proofs.YtmicdbplkfdfnaaGreatDoor
set_option linter.unusedVariables false
namespace Go.Proofs.YtmicdbplkfdfnaaGreatDoor
open Go.RowKit Go.Shelf Go.Maps

attribute [local go_sem] run_store_flt
theorem info75 : (Tryz.prog.info? 75).map (fun i => (i.zero, i.size, i.bytes)) = some (some noP, 10, 64) := by kernel_rfl
set_option maxRecDepth 100000 in
set_option maxHeartbeats 2000000 in
theorem set_new (b S base n : Nat) (nm : ByteArray) (pl i : Int) (p0 p1 p2 p3 : Bool) (p4 : Int) (p5 : Nat) (p6 : ByteArray) (p7 p8 p9 : Option Addr) (cl pr fx inn num nv rw st kp : Value) (xs : List Value) (T : List Nat) (Q : Nat → World → Prop) (w : World)
    (hB : w.heap[b]? = some (.cells #[cl, pr, fx, inn, num, .pointer (some ⟨S, 0, none⟩), nv, rw, st, kp] 111 (0, 0)))
    (hrow : w.ownsRow base 75 10 nv n xs) (hn : n ≤ 1000) (hbase : base ≤ w.heap.size)
    (hT : ∀ i ∈ T, i < w.heap.size) (hbT : b ∉ T) (hrT : ∀ g, nv.ownBlock = some g → g ∉ T)
    (cf : ∀ W, Kx [] w W → Calls Tryz.prog 51 #[.pointer (some ⟨S, 0, none⟩), .string nm] W fun e w' => e = .returned (.tuple #[.int .i64 i, .bool false]) ∧ ∃ q, w' = W.drewN q)
    (ca : ∀ W, Kx [] w W → Calls Tryz.prog 85 #[.pointer (some ⟨S, 0, none⟩), .agg #[.string nm, .bool p0, .bool p1, .bool p2, .bool p3]] W fun e w' => ∃ S', e = .returned (.pointer (some ⟨S', 0, none⟩)) ∧ Kx T W w' ∧ Q S' w') :
    Calls Tryz.prog 59 #[.pointer (some ⟨b, 0, none⟩), .agg #[.string nm, .int .u32 pl, .bool false], .agg #[.bool p0, .bool p1, .bool p2, .bool p3, .int .i64 p4, .float .f64 p5, .string p6, .pointer p7, .pointer p8, .pointer p9]] w fun e w' => (∃ u, e = .returned u) ∧ ∃ S' w2 v', Kx T w w2 ∧ Q S' w2 ∧
      w'.heap[b]? = some (.cells #[cl, pr, fx, inn, num, .pointer (some ⟨S', 0, none⟩), v', rw, st, kp] 111 (0, 0)) ∧ w'.ownsRow base 75 10 v' (n + 1) (xs ++ [.bool p0, .bool p1, .bool p2, .bool p3, .int .i64 p4, .float .f64 p5, .string p6, .pointer p7, .pointer p8, .pointer p9]) ∧ (∀ g, v'.ownBlock = some g → nv.ownBlock = some g ∨ w2.heap.size ≤ g) ∧ Kx (b :: nv.ownBlock.toList) w2 w' := by
  obtain ⟨W0, hW0⟩ : ∃ W0, W0 = (w.alloc (Obj.cells #[.string nm, .int .u32 pl, .bool false] 67)).alloc (Obj.cells #[.bool p0, .bool p1, .bool p2, .bool p3, .int .i64 p4, .float .f64 p5, .string p6, .pointer p7, .pointer p8, .pointer p9] 75) := ⟨_, rfl⟩
  have hk : Kx [] w W0 := by rw [hW0]; exact (show Kx [] w _ from (Kx.alloc _ _ _).alc _)
  have hB0 := hk.get hB (by simp)
  have hK0 : W0.heap[w.heap.size]? = some (Obj.cells #[.string nm, .int .u32 pl, .bool false] 67 (0, 0)) := by rw [hW0]; exact heap_old (heap_alloc_new _ _) _
  have hP0 : W0.heap[w.heap.size + 1]? = some (Obj.cells #[.bool p0, .bool p1, .bool p2, .bool p3, .int .i64 p4, .float .f64 p5, .string p6, .pointer p7, .pointer p8, .pointer p9] 75 (0, 0)) := by rw [hW0]; exact heap_alloc2_new _ _ _
  have hbl : b < w.heap.size := by rcases Nat.lt_or_ge b w.heap.size with h | h; exact h; rw [Array.getElem?_eq_none h] at hB; cases hB
  have b5 := cell_at hB0 5 rfl
  have k0 := cell_at hK0 0 rfl
  have k2 := cell_at hK0 2 rfl
  have HB0 := (show Hid _ from hB0)
  have HK0 := (show Hid _ from hK0)
  have HP0 := (show Hid _ from hP0)
  have HK := (show Hid _ from hk)
  have CF := (show Hid _ from cf)
  have CA := (show Hid _ from ca)
  have HRW := (show Hid _ from hrow)
  rw [hW0] at b5 k0 k2
  clear hB hB0 hK0 hP0 hk cf ca hrow
  go_enter Tryz.func59, Tryz.ntmps59
  go_wp2
  rw [← hW0] at b5 k0 k2 ⊢
  clear hW0
  go_quiet (first | (go_at_call 51; exact Calls.quiet_of (CF.out _ (HK.out.drw _))))
  have HB1 : Hid ((W0.drewN nq).heap[b]? = some (.cells #[cl, pr, fx, inn, num, .pointer (some ⟨S, 0, none⟩), nv, rw, st, kp] 111 (0, 0))) := HB0
  have HK1 : Hid ((W0.drewN nq).heap[w.heap.size]? = some (Obj.cells #[.string nm, .int .u32 pl, .bool false] 67 (0, 0))) := HK0
  have HP1 : Hid ((W0.drewN nq).heap[w.heap.size + 1]? = some (Obj.cells #[.bool p0, .bool p1, .bool p2, .bool p3, .int .i64 p4, .float .f64 p5, .string p6, .pointer p7, .pointer p8, .pointer p9] 75 (0, 0))) := HP0
  have HW1 : Hid (Kx [] w (W0.drewN nq)) := (show Kx [] w (W0.drewN nq) from HK.out.drw nq)
  clear b5 k0 k2 HB0 HK0 HP0 HK CF
  obtain ⟨w1, hw1⟩ : ∃ w1, w1 = W0.drewN nq := ⟨_, rfl⟩
  rw [← hw1] at HB1 HK1 HP1 HW1 ⊢
  clear hw1
  have b5 := cell_at HB1.out 5 rfl
  have k0 := cell_at HK1.out 0 rfl
  have x0 := cell_at HP1.out 0 rfl
  have x1 := cell_at HP1.out 1 rfl
  have x2 := cell_at HP1.out 2 rfl
  have x3 := cell_at HP1.out 3 rfl
  go_wp2
  go_region_law (first | (go_simp; go_at_call 85; refine (CA.out _ ?_).mono ?_; (exact HW1.out.drw1); rintro e w2 ⟨S', rfl, hk2, hq2⟩; have JB2 : Hid (w2.heap[b]? = some (.cells #[cl, pr, fx, inn, num, .pointer (some ⟨S, 0, none⟩), nv, rw, st, kp] 111 (0, 0))) := hk2.get (k := b) HB1.out hbT; have y5 := cell_at JB2.out 5 rfl; have g5 := fr_all JB2.out 5))
  all_goals have HKA : Hid (Kx T w w2) := (show Kx T w w2 from (HW1.out.mono (fun i hi => by cases hi)).trans (((Kx.drew T w1).same hk2)) (fun i hi => .inl hi))
  all_goals have HP2 : Hid (w2.heap[w.heap.size + 1]? = some (Obj.cells #[.bool p0, .bool p1, .bool p2, .bool p3, .int .i64 p4, .float .f64 p5, .string p6, .pointer p7, .pointer p8, .pointer p9] 75 (0, 0))) := hk2.get (k := w.heap.size + 1) HP1.out (fun hm => by have := hT _ hm; omega)
  all_goals have HQ2 : Hid (Q S' w2) := hq2
  all_goals have HR2 : Hid (w2.ownsRow base 75 10 nv n xs) := HKA.out.owns HRW.out hrT
  all_goals clear hk2 hq2 HP1 HW1 HB1 HK1 CA b5 k0 x0 x1 x2 x3 y5 g5 HRW
  all_goals have HB3 : Hid ((w2.setCell ⟨b, 5, none⟩ (Value.pointer (some ⟨S', 0, none⟩))).heap[b]? = some (.cells #[cl, pr, fx, inn, num, .pointer (some ⟨S', 0, none⟩), nv, rw, st, kp] 111 (0, 0))) := heap_set_at JB2.out 5 _ rfl
  all_goals have HP3 : Hid ((w2.setCell ⟨b, 5, none⟩ (Value.pointer (some ⟨S', 0, none⟩))).heap[w.heap.size + 1]? = some (Obj.cells #[.bool p0, .bool p1, .bool p2, .bool p3, .int .i64 p4, .float .f64 p5, .string p6, .pointer p7, .pointer p8, .pointer p9] 75 (0, 0))) := heap_setCell_ne HP2.out (by omega) 5 _
  all_goals have HK3 : Hid (Kx [b] w2 (w2.setCell ⟨b, 5, none⟩ (Value.pointer (some ⟨S', 0, none⟩)))) := (show Kx [b] w2 _ from Kx.setCell _ (by simp) _)
  all_goals have HR3 : Hid ((w2.setCell ⟨b, 5, none⟩ (Value.pointer (some ⟨S', 0, none⟩))).ownsRow base 75 10 nv n xs) := HK3.out.owns HR2.out (fun g hg hm => row_apart HR2.out JB2.out (by decide) (by rw [hg, List.mem_singleton.1 hm]; simp))
  all_goals have hbs : base ≤ (w2.setCell ⟨b, 5, none⟩ (Value.pointer (some ⟨S', 0, none⟩))).heap.size := Nat.le_trans hbase (Nat.le_trans HKA.out.size HK3.out.size)
  all_goals clear HP2 HR2 JB2
  all_goals (obtain ⟨W3, hW3⟩ : ∃ W3, W3 = w2.setCell ⟨b, 5, none⟩ (Value.pointer (some ⟨S', 0, none⟩)) := ⟨_, rfl⟩)
  all_goals rw [← hW3] at HB3 HP3 HK3 HR3 hbs ⊢
  all_goals clear hW3
  all_goals have z6 := cell_at HB3.out 6 rfl
  all_goals have x0 := cell_at HP3.out 0 rfl
  all_goals have x1 := cell_at HP3.out 1 rfl
  all_goals have x2 := cell_at HP3.out 2 rfl
  all_goals have x3 := cell_at HP3.out 3 rfl
  all_goals have x4 := cell_at HP3.out 4 rfl
  all_goals have x5 := cell_at HP3.out 5 rfl
  all_goals have x6 := cell_at HP3.out 6 rfl
  all_goals have x7 := cell_at HP3.out 7 rfl
  all_goals have x8 := cell_at HP3.out 8 rfl
  all_goals have x9 := cell_at HP3.out 9 rfl
  all_goals have d6 : ∀ o, (W3.alloc o).cell? ⟨b, 6, none⟩ = some nv := fun o => cell_at ((Kx.alloc [] W3 o).get HB3.out (by simp)) 6 rfl
  all_goals have d6' : ∀ o, (W3.drew.alloc o).cell? ⟨b, 6, none⟩ = some nv := fun o => d6 o
  all_goals have hne : b ∉ nv.ownBlock.toList := row_apart HR3.out HB3.out (by decide)
  all_goals (obtain ⟨i0, hi, hz0, hz1, hz2⟩ := info_parts info75)
  all_goals have q3 : n + 1 ≤ maxLen := by unfold maxLen; omega
  all_goals
    go_wp2
    go_region_law (first | (refine step_append_lies _ (by rfl) _ _ _ (by rfl) base 75 i0 _ 10 64 Tryz.underlying107 hi hz0 hz1 hz2 rfl (by omega) nv n xs (by rfl) (HR3.out.drew.alloc _) ⟨W3.heap.size, 0, none⟩ 1 1 [.bool p0, .bool p1, .bool p2, .bool p3, .int .i64 p4, .float .f64 p5, .string p6, .pointer p7, .pointer p8, .pointer p9] (by rfl) (by rfl) (cells_new W3.drew [.bool p0, .bool p1, .bool p2, .bool p3, .int .i64 p4, .float .f64 p5, .string p6, .pointer p7, .pointer p8, .pointer p9] 75) (by intro u hu; simp at hu; rcases hu with rfl | rfl | rfl | rfl | rfl | rfl | rfl | rfl | rfl | rfl <;> rfl) (by omega) q3 (by omega) (by simp; omega) (W3.heap.size + 1) (by simp) ?_; intro gg cap w4 hown1 hgrow hat hlt1; have JN4 : Hid (w4.heap[b]? = some (.cells #[cl, pr, fx, inn, num, .pointer (some ⟨S', 0, none⟩), nv, rw, st, kp] 111 (0, 0))) := (Kx.grown hgrow).get ((Kx.alloc [] W3.drew _).get HB3.out (by simp)) hne; have cN4 : w4.cell? ⟨b, 6, none⟩ = some nv := cell_at JN4.out 6 rfl; have fN4 : w4.frozen? ⟨b, 6, none⟩ = false := fr_all JN4.out 6))
    all_goals
      go_wp2
      refine bodyPost_ret (results_none rfl _ _ _) rfl ?_
      have kD : Kx [b] w4 (w4.setCell ⟨b, 6, none⟩ (.slice (some ⟨gg, 0, none⟩) (n + 1) cap)) := Kx.setCell _ (by simp) _
      have kA : Kx (b :: nv.ownBlock.toList) w2 _ := ((HK3.out.drw1).alc (Obj.cells #[.bool p0, .bool p1, .bool p2, .bool p3, .int .i64 p4, .float .f64 p5, .string p6, .pointer p7, .pointer p8, .pointer p9] 75)).mono (S := b :: nv.ownBlock.toList) (fun q hq => .inl (by simp [List.mem_singleton.1 hq]))
      refine ⟨⟨_, rfl⟩, S', w2, .slice (some ⟨gg, 0, none⟩) (n + 1) cap, HKA.out, HQ2.out, heap_set_at JN4.out 6 _ rfl, ?_, (fun q hq => by
        have e : gg = q := by simpa [Value.ownBlock] using hq
        rcases hat with h | h
        · exact .inl (by rw [h, e])
        · exact .inr (by have h2 := HK3.out.size; rw [← e, h]; omega)), (kA.trans (Kx.grown hgrow) (fun q hq => .inl (by simp; exact .inr (by simpa using hq)))).trans kD (fun q hq => .inl (by simp [List.mem_singleton.1 hq]))⟩
      exact kD.owns hown1 (fun q hq hm => row_apart hown1 JN4.out (by decide) (by rw [hq, List.mem_singleton.1 hm]; simp))
end Go.Proofs.YtmicdbplkfdfnaaGreatDoor
