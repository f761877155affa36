/- The tree of shapes: what find and after do. -/
import Derived.Test.YtdnjgemaenhcfaaGreatDoorCHn7x
import Derived.Test.YtdnjgemaenhcfaaGreatDoorCHb2x
set_option linter.unusedVariables false
namespace Go.Proofs.YtdnjgemaenhcfaaGreatDoor
open Go.RowKit Go.Shelf Go.Maps

theorem pf_get : ∀ (n : Nat) (L : List ByteArray), L.length = n → L.Nodup → ∀ s i, pf L s = some i ↔ L[i]? = some s
  | 0, L, h, _, s, i => by
    rw [List.eq_nil_of_length_eq_zero h, pf_nil]
    simp
  | n + 1, L, h, hd, s, i => by
    rcases List.eq_nil_or_concat L with h1 | ⟨m, y, h1⟩
    · rw [h1] at h; simp at h
    · rw [List.concat_eq_append] at h1
      subst h1
      have hm : m.length = n := by simpa using h
      have hd2 : m.Nodup ∧ y ∉ m := by
        rw [List.nodup_append] at hd
        exact ⟨hd.1, fun hy => hd.2.2 y hy y (by simp) rfl⟩
      rw [pf_snoc]
      have ih := pf_get n m hm hd2.1 s i
      by_cases e : s = y
      · subst e
        simp only [if_true]
        rcases Nat.lt_trichotomy i m.length with hi | hi | hi
        · rw [List.getElem?_append_left hi]
          constructor
          · intro h2
            have := Option.some.inj h2
            omega
          · intro h2
            exact absurd (List.mem_of_getElem? h2) hd2.2
        · rw [hi]
          simp
        · rw [List.getElem?_eq_none (by simp; omega)]
          constructor
          · intro h2
            have := Option.some.inj h2
            omega
          · intro h2
            cases h2
      · simp only [if_neg e, ih]
        rcases Nat.lt_trichotomy i m.length with hi | hi | hi
        · rw [List.getElem?_append_left hi]
        · rw [hi]
          simp
          exact fun h2 => e h2.symm
        · rw [List.getElem?_eq_none (by omega), List.getElem?_eq_none (by simp; omega)]
/-- The shapes of a heap: blocks and paths. -/
def Tree (w : World) (B : Nat) (F : List Nat) (ps : List (Nat × List Stp)) : Prop :=
  ∃ ns ms, Tree0 w B F ns ms ∧ ∀ q, q ∈ ps ↔ ∃ s ∈ ns, q = (s.S, s.path)
theorem Tree.kept {w w' : World} {B : Nat} {F : List Nat} {ps : List (Nat × List Stp)} (h : Tree w B F ps) {T : List Nat} (hk : Kx T w w') (hT : ∀ i ∈ F, i ∉ T) : Tree w' B F ps := by
  obtain ⟨ns, ms, h1, h2⟩ := h
  exact ⟨ns, ms, h1.kept hk hT, h2⟩
theorem Tree.kept0 {w w' : World} {B : Nat} {F : List Nat} {ps : List (Nat × List Stp)} (h : Tree w B F ps) (hk : Kx [] w w') : Tree w' B F ps := h.kept hk (fun _ _ => by simp)
theorem Tree.mono {w : World} {B B' : Nat} {F : List Nat} {ps : List (Nat × List Stp)} (h : Tree w B F ps) (hB : B ≤ B') : Tree w B' F ps := by
  obtain ⟨ns, ms, h1, h2⟩ := h
  exact ⟨ns, ms, h1.mono hB, h2⟩
theorem Tree.low {w : World} {B : Nat} {F : List Nat} {ps : List (Nat × List Stp)} (h : Tree w B F ps) : ∀ i ∈ F, i < w.heap.size := by
  obtain ⟨ns, ms, h1, h2⟩ := h
  exact h1.low
theorem Tree.inj {w : World} {B : Nat} {F : List Nat} {ps : List (Nat × List Stp)} (h : Tree w B F ps) {S S' : Nat} {p p' : List Stp} (h1 : (S, p) ∈ ps) (h2 : (S', p') ∈ ps) : S = S' ↔ p = p' := by
  obtain ⟨ns, ms, h0, hq⟩ := h
  obtain ⟨s, hs, e⟩ := (hq _).1 h1
  obtain ⟨t, ht, e'⟩ := (hq _).1 h2
  simp only [Prod.mk.injEq] at e e'
  obtain ⟨rfl, rfl⟩ := e
  obtain ⟨rfl, rfl⟩ := e'
  exact ⟨fun h3 => by rw [h0.dS s hs t ht h3], fun h3 => by rw [h0.dP s hs t ht h3]⟩
theorem Tree.mem {w : World} {B : Nat} {F : List Nat} {ps : List (Nat × List Stp)} (h : Tree w B F ps) {S : Nat} {p : List Stp} (h1 : (S, p) ∈ ps) : S ∈ F := by
  obtain ⟨ns, ms, h0, hq⟩ := h
  obtain ⟨s, hs, e⟩ := (hq _).1 h1
  simp only [Prod.mk.injEq] at e
  rw [e.1]
  exact h0.fS s hs
theorem Tree.shape {w : World} {B : Nat} {F : List Nat} {ps : List (Nat × List Stp)} (h : Tree w B F ps) {S : Nat} {p : List Stp} (h1 : (S, p) ∈ ps) : ∃ C, w.heap[S]? = some (.cells C 118 (0, 0)) ∧ C[4]? = some (.bool false) := by
  obtain ⟨ns, ms, h0, hq⟩ := h
  obtain ⟨s, hs, e⟩ := (hq _).1 h1
  simp only [Prod.mk.injEq] at e
  obtain ⟨a, b, hc⟩ := h0.shape s hs
  rw [e.1]
  exact ⟨_, hc, rfl⟩
/-- Where names lie: of a shape: the names' block, the map's, and how the names stand there. -/
theorem Tree.names {w : World} {B : Nat} {F : List Nat} {ps : List (Nat × List Stp)} (h : Tree w B F ps) {S : Nat} {p : List Stp} (h1 : (S, p) ∈ ps) :
    ∃ N M n v k L fr nx kp, w.heap[S]? = some (.cells #[.pointer (some ⟨N, 0, none⟩), .int .i64 (p.length : Int), fr, nx, .bool false, .bool kp] 118 (0, 0)) ∧ NamesAt w 0 N M n v k L ∧ nms p <+: L ∧ L.Nodup ∧ L.length ≤ B ∧ n ≤ B ∧ ∀ x ∈ L, x.size ≤ maxLen := by
  obtain ⟨ns, ms, h0, hq⟩ := h
  obtain ⟨s, hs, e⟩ := (hq _).1 h1
  simp only [Prod.mk.injEq] at e
  obtain ⟨rfl, rfl⟩ := e
  obtain ⟨a, b, hc⟩ := h0.shape s hs
  obtain ⟨m, hm, e1, e2⟩ := h0.has s hs
  obtain ⟨n1, n2, n3, n4, n5⟩ := h0.names m hm
  rw [← e1] at hc
  exact ⟨m.N, m.M, m.n, m.v, m.k, m.L, a, _, b, hc, n1, e2, n4, n3, n2, n5⟩
/-- find at a shape of the tree: the name is there. -/
theorem Tree.find_yes {w : World} {B : Nat} {F : List Nat} {ps : List (Nat × List Stp)} (h : Tree w B F ps) {S : Nat} {p : List Stp} (h1 : (S, p) ∈ ps) {i : Nat} {s : ByteArray} (hi : (nms p)[i]? = some s) :
    Calls Tryz.prog 49 #[.pointer (some ⟨S, 0, none⟩), .string s] w fun e w' => e = .returned (.tuple #[.int .i64 (i : Int), .bool true]) ∧ ∃ q, w' = w.drewN q := by
  obtain ⟨N, M, n, v, k, L, fr, nx, kp, a1, a2, a3, a4, a5, a6, a7⟩ := h.names h1
  have hL : L[i]? = some s := by
    obtain ⟨r, rfl⟩ := a3
    rw [List.getElem?_append_left (List.getElem?_eq_some_iff.1 hi).1]
    exact hi
  have hf := (pf_get _ L rfl a4 s i).2 hL
  have hil : i < p.length := by
    have := (List.getElem?_eq_some_iff.1 hi).1
    rwa [nms_len] at this
  have c := find_any S N M n p.length (pf L) s (a7 s (List.mem_of_getElem? hL)) w (cell_at a1 0 rfl) (cell_at a1 1 rfl) (cell_at a2.1 1 rfl) a2.2.2
  rw [hf] at c
  simpa [hil] using c
/-- find at a shape of the tree: the name is not there. -/
theorem Tree.find_no {w : World} {B : Nat} {F : List Nat} {ps : List (Nat × List Stp)} (h : Tree w B F ps) {S : Nat} {p : List Stp} (h1 : (S, p) ∈ ps) {s : ByteArray} (hs : s.size ≤ maxLen) (hi : s ∉ nms p) :
    ∃ z : Int, ∀ W, Kx [] w W → Calls Tryz.prog 49 #[.pointer (some ⟨S, 0, none⟩), .string s] W fun e w' => e = .returned (.tuple #[.int .i64 z, .bool false]) ∧ ∃ q, w' = W.drewN q := by
  obtain ⟨N, M, n, v, k, L, fr, nx, kp, a1, a2, a3, a4, a5, a6, a7⟩ := h.names h1
  refine ⟨(((pf L s).getD 0 : Nat) : Int), fun W hW => ?_⟩
  have a1' := hW.get a1 (by simp)
  have a2' := a2.kept hW (by simp) (by simp) (by simp)
  have c := find_any S N M n p.length (pf L) s hs W (cell_at a1' 0 rfl) (cell_at a1' 1 rfl) (cell_at a2'.1 1 rfl) a2'.2.2
  have e : ((pf L s).isSome && decide ((pf L s).getD 0 < p.length)) = false := by
    cases hc : pf L s with
    | none => rfl
    | some i =>
      have hL := (pf_get _ L rfl a4 s i).1 hc
      simp
      apply Decidable.byContradiction
      intro hlt
      apply hi
      obtain ⟨r, rfl⟩ := a3
      rw [List.getElem?_append_left (by rw [nms_len]; omega)] at hL
      exact List.mem_of_getElem? hL
  rw [e] at c
  exact c
theorem Tree0.grow {W : World} {B : Nat} {F : List Nat} {ns : List Sh} {ms : List Nm} (h : Tree0 W B F ns ms) {s : Sh} (hs : s ∈ ns) (p : Stp) (hno : ∀ t ∈ ns, t.path ≠ s.path ++ [p]) (hp : p.1.size ≤ maxLen) (hnp : p.1 ∉ nms s.path) (hB : B ≤ 900) :
    Calls Tryz.prog 111 #[.pointer (some ⟨s.S, 0, none⟩), stpV p] W fun e w' => (∃ u, e = .returned u) ∧ ∃ S' F' ns' ms' X' nX' f' fr kp, Kx F W w' ∧ (∀ i ∈ F', i ∈ F ∨ W.heap.size ≤ i) ∧ Tree0 w' (B + 1) F' ns' ms' ∧ (∃ t ∈ ns', t.S = S' ∧ t.path = s.path ++ [p]) ∧ (∀ u ∈ ns, ∃ u' ∈ ns', u'.S = u.S ∧ u'.path = u.path) ∧
      w'.heap[s.S]? = some (.cells #[.pointer (some ⟨s.N, 0, none⟩), .int .i64 (s.path.length : Int), fr, .map (some X'), .bool false, .bool kp] 118 (0, 0)) ∧ PMap w' X' nX' f' ∧ f' p = some S' := by
  obtain ⟨m, hm, hsm, hpre⟩ := h.has s hs
  obtain ⟨fr, kp, hS⟩ := h.shape s hs
  obtain ⟨hN, hn, hL, hLd, hLs⟩ := h.names m hm
  rw [← hsm] at hS
  have old : ∀ (t' s' : Sh), s'.S = s.S → s'.path = s.path → ∀ u ∈ ns, ∃ u' ∈ (t' :: s' :: ns.filter (fun u => decide (u.S ≠ s.S))), u'.S = u.S ∧ u'.path = u.path := by
    intro t' s' e1 e2 u hu
    by_cases e : u.S = s.S
    · have := h.dS u hu s hs e
      subst this
      exact ⟨s', by simp, e1, e2⟩
    · exact ⟨u, by simp [hu, e], rfl, rfl⟩
  have hlen := hpre.length_le
  rw [nms_len] at hlen
  have htk : m.L.take s.path.length = nms s.path := by
    have := List.prefix_iff_eq_take.1 hpre
    rw [nms_len] at this
    exact this.symm
  have hfX : ∀ x, s.X = some x → ∃ nX f, nX ≤ B ∧ PMap W x nX f ∧ (∀ q i, f q = some i ↔ ∃ t ∈ ns, t.S = i ∧ t.path = s.path ++ [q]) := fun x hx => h.next s hs x hx
  cases hx : s.X with
  | some x =>
    obtain ⟨nX, f, b1, b2, b3⟩ := hfX x hx
    rw [hx] at hS
    have hxM : m.M ≠ x := fun e => h.dXM s hs x hx m hm e.symm
    have hff : ∀ (S' : Nat) q i, (if q = p then some S' else f q) = some i ↔ (q = p ∧ i = S') ∨ (q ≠ p ∧ ∃ t ∈ ns, t.S = i ∧ t.path = s.path ++ [q]) := by
      intro S' q i
      by_cases e : q = p
      · simp [e]; exact ⟨fun h => h.symm, fun h => h.symm⟩
      · simp [e, b3]
    have hSx : s.S ≠ x := pmap_cells b2 hS
    by_cases hc : m.L.length = s.path.length
    · have hLn : m.L = nms s.path := by rw [← htk, ← hc, List.take_length]
      refine (grow_one s.S m.N m.M m.n 0 s.path.length m.v m.k fr (.map (some x)) false kp m.L p W hS hN hc (by omega) (by omega) hp (Nat.zero_le _) x nX f ⟨rfl, b2⟩ (by omega) hxM).mono ?_
      rintro e w' ⟨hu, S', v', g1, g2, g3, g4, g5, g6⟩
      have hTF : ∀ i ∈ x :: m.N :: m.M :: m.v.ownBlock.toList, i ∈ F := by
        intro i hi
        simp only [List.mem_cons] at hi
        rcases hi with rfl | rfl | rfl | hi
        · exact h.fX s hs _ hx
        · exact h.fN m hm
        · exact h.fM m hm
        · exact h.fR m hm i (by simpa using hi)
      have hSn : s.S ∉ x :: m.N :: m.M :: m.v.ownBlock.toList := by
        simp only [List.mem_cons, not_or]
        exact ⟨hSx, cells_ne hS hN.1 (by decide), imap_cells hN.2.2 hS, row_apart hN.2.1 hS (by decide)⟩
      have hS2 := g6.get hS hSn
      rw [hsm] at hS2
      rw [hLn] at g4
      refine ⟨hu, S', _, _, _, x, _, _, fr, kp, g6.mono (fun i hi => .inl (hTF i hi)), ?_, h.grown (N' := m.N) (M' := m.M) hs hm hsm hpre p hno hp hnp (T := x :: m.N :: m.M :: m.v.ownBlock.toList) ?_ g6 g1 g2 hS2 (.inl hx) g3 (by omega) (hff S') g4 (by omega) (.inl ⟨hsm, rfl, hLn, g5⟩), ⟨_, by simp; exact .inl rfl, rfl, rfl⟩, old _ _ rfl rfl, hS2, g3, by simp⟩
      · intro i hi
        simp only [List.mem_cons, List.mem_append] at hi
        rcases hi with rfl | rfl | rfl | rfl | hi | hi
        · exact .inr g1
        · exact .inl (h.fX s hs _ hx)
        · exact .inl (h.fN m hm)
        · exact .inl (h.fM m hm)
        · rcases g5 i (by simpa using hi) with e | e
          · exact .inl (h.fR m hm i e)
          · exact .inr e
        · exact .inl hi
      · intro i hi
        simp only [List.mem_cons] at hi
        rcases hi with rfl | rfl | rfl | hi
        · exact .inr (.inl hx)
        · exact .inr (.inr ⟨hsm, .inl rfl⟩)
        · exact .inr (.inr ⟨hsm, .inr (.inl rfl)⟩)
        · exact .inr (.inr ⟨hsm, .inr (.inr (by simpa using hi))⟩)
    · refine (growP_one s.S m.N m.M m.n 0 s.path.length m.v m.k fr (.map (some x)) false kp m.L p W hS hN (by omega) hLs (by omega) (by omega) hp (Nat.zero_le _) x nX f ⟨rfl, b2⟩ (by omega) hxM).mono ?_
      rintro e w' ⟨hu, S', N', M', v', g1, g2, g3, g4, g5, g6, g7⟩
      have hS2 := g7.get hS (by simp; exact hSx)
      rw [hsm] at hS2
      rw [htk] at g6
      have hxl := h.low _ (h.fX s hs _ hx)
      refine ⟨hu, S', _, _, _, x, _, _, fr, kp, g7.mono (fun i hi => .inl (by simp at hi; rw [hi]; exact h.fX s hs _ hx)), ?_, h.grown (N' := N') (M' := M') hs hm hsm hpre p hno hp hnp (T := [x]) ?_ g7 g1 g4 hS2 (.inl hx) g5 (by omega) (hff S') (g6.low (Nat.zero_le _)) (by omega) (.inr ⟨g2, g3, by omega, fun g hg => (g6.2.1.lt g hg).1⟩), ⟨_, by simp; exact .inl rfl, rfl, rfl⟩, old _ _ rfl rfl, hS2, g5, by simp⟩
      · intro i hi
        simp only [List.mem_cons, List.mem_append] at hi
        rcases hi with rfl | rfl | rfl | rfl | hi | hi
        · exact .inr g1
        · exact .inl (h.fX s hs _ hx)
        · exact .inr g2
        · exact .inr g3
        · exact .inr (g6.2.1.lt i (by simpa using hi)).1
        · exact .inl hi
      · intro i hi
        simp at hi
        exact .inr (.inl (by rw [hi]; exact hx))
  | none =>
    rw [hx] at hS
    have hff : ∀ (S' : Nat) q i, (if q = p then some S' else none) = some i ↔ (q = p ∧ i = S') ∨ (q ≠ p ∧ ∃ t ∈ ns, t.S = i ∧ t.path = s.path ++ [q]) := by
      intro S' q i
      by_cases e : q = p
      · simp [e]; exact ⟨fun h => h.symm, fun h => h.symm⟩
      · simp [e]
        exact fun t ht _ => h.last s hs hx t ht q
    by_cases hc : m.L.length = s.path.length
    · have hLn : m.L = nms s.path := by rw [← htk, ← hc, List.take_length]
      refine (grow_nil s.S m.N m.M m.n 0 s.path.length m.v m.k fr (.map none) false kp m.L p W hS hN hc (by omega) (by omega) hp (Nat.zero_le _) rfl).mono ?_
      rintro e w' ⟨hu, S', X', v', g1, g2, g3, g4, g5, g6, g7, g8⟩
      have hTF : ∀ i ∈ s.S :: m.N :: m.M :: m.v.ownBlock.toList, i ∈ F := by
        intro i hi
        simp only [List.mem_cons] at hi
        rcases hi with rfl | rfl | rfl | hi
        · exact h.fS s hs
        · exact h.fN m hm
        · exact h.fM m hm
        · exact h.fR m hm i (by simpa using hi)
      rw [hsm] at g3
      rw [hLn] at g6
      refine ⟨hu, S', _, _, _, X', _, _, fr, kp, g8.mono (fun i hi => .inl (hTF i hi)), ?_, h.grown (N' := m.N) (M' := m.M) hs hm hsm hpre p hno hp hnp (T := s.S :: m.N :: m.M :: m.v.ownBlock.toList) ?_ g8 g1 g4 g3 (.inr ⟨hx, g2⟩) g5 (by omega) (hff S') g6 (by omega) (.inl ⟨hsm, rfl, hLn, g7⟩), ⟨_, by simp; exact .inl rfl, rfl, rfl⟩, old _ _ rfl rfl, g3, g5, by simp⟩
      · intro i hi
        simp only [List.mem_cons, List.mem_append] at hi
        rcases hi with rfl | rfl | rfl | rfl | hi | hi
        · exact .inr g1
        · exact .inr g2
        · exact .inl (h.fN m hm)
        · exact .inl (h.fM m hm)
        · rcases g7 i (by simpa using hi) with e | e
          · exact .inl (h.fR m hm i e)
          · exact .inr e
        · exact .inl hi
      · intro i hi
        simp only [List.mem_cons] at hi
        rcases hi with rfl | rfl | rfl | hi
        · exact .inl rfl
        · exact .inr (.inr ⟨hsm, .inl rfl⟩)
        · exact .inr (.inr ⟨hsm, .inr (.inl rfl)⟩)
        · exact .inr (.inr ⟨hsm, .inr (.inr (by simpa using hi))⟩)
    · refine (growP_nil s.S m.N m.M m.n 0 s.path.length m.v m.k fr (.map none) false kp m.L p W hS hN (by omega) hLs (by omega) (by omega) hp (Nat.zero_le _) rfl).mono ?_
      rintro e w' ⟨hu, S', X', N', M', v', g1, g2, g3, g4, g5, g6, g7, g8, g9, g10⟩
      rw [hsm] at g6
      rw [htk] at g9
      refine ⟨hu, S', _, _, _, X', _, _, fr, kp, g10.mono (fun i hi => .inl (by simp at hi; rw [hi]; exact h.fS s hs)), ?_, h.grown (N' := N') (M' := M') hs hm hsm hpre p hno hp hnp (T := [s.S]) ?_ g10 g1 g7 g6 (.inr ⟨hx, g2⟩) g8 (by omega) (hff S') (g9.low (Nat.zero_le _)) (by omega) (.inr ⟨g3, g4, g5, fun g hg => (g9.2.1.lt g hg).1⟩), ⟨_, by simp; exact .inl rfl, rfl, rfl⟩, old _ _ rfl rfl, g6, g8, by simp⟩
      · intro i hi
        simp only [List.mem_cons, List.mem_append] at hi
        rcases hi with rfl | rfl | rfl | rfl | hi | hi
        · exact .inr g1
        · exact .inr g2
        · exact .inr g3
        · exact .inr g4
        · exact .inr (g9.2.1.lt i (by simpa using hi)).1
        · exact .inl hi
      · intro i hi
        simp at hi
        exact .inl hi
/-- after, at a shape of the tree, by a step whose name is not there yet. -/
theorem Tree.after {w : World} {B : Nat} {F : List Nat} {ps : List (Nat × List Stp)} (h : Tree w B F ps) {S : Nat} {pa : List Stp} (h1 : (S, pa) ∈ ps) (p : Stp) (hp : p.1.size ≤ maxLen) (hnp : p.1 ∉ nms pa) (hB : B ≤ 900) :
    Calls Tryz.prog 81 #[.pointer (some ⟨S, 0, none⟩), stpV p] w fun e w' => ∃ S', e = .returned (.pointer (some ⟨S', 0, none⟩)) ∧ Kx F w w' ∧ ∃ F' ps', (∀ i ∈ F', i ∈ F ∨ w.heap.size ≤ i) ∧ Tree w' (B + 1) F' ps' ∧ (S', pa ++ [p]) ∈ ps' ∧ ∀ q ∈ ps, q ∈ ps' := by
  obtain ⟨ns, ms, h0, hq⟩ := h
  obtain ⟨s, hs, e⟩ := (hq _).1 h1
  simp only [Prod.mk.injEq] at e
  obtain ⟨rfl, rfl⟩ := e
  obtain ⟨fr, kp, hS⟩ := h0.shape s hs
  by_cases hit : ∃ t ∈ ns, t.path = s.path ++ [p]
  · obtain ⟨t, ht, hpt⟩ := hit
    cases hx : s.X with
    | none => exact absurd hpt (h0.last s hs hx t ht p)
    | some x =>
      obtain ⟨nX, f, b1, b2, b3⟩ := h0.next s hs x hx
      rw [hx] at hS
      refine (after_hit s.S x nX t.S _ fr _ kp f p w hS b2 hp ((b3 p t.S).2 ⟨t, ht, rfl, hpt⟩)).mono ?_
      rintro e w' ⟨rfl, hk⟩
      exact ⟨t.S, rfl, hk.mono (fun i hi => by cases hi), F, ps, fun i hi => .inl hi, ⟨ns, ms, (h0.kept hk (fun _ _ => by simp)).mono (by omega), hq⟩, (hq _).2 ⟨t, ht, by rw [hpt]⟩, fun q hq => hq⟩
  · have hno : ∀ t ∈ ns, t.path ≠ s.path ++ [p] := fun t ht e => hit ⟨t, ht, e⟩
    refine (after_miss s.S _ fr _ (xV s.X) kp p w (fun S' w1 => Kx F w w1 ∧ ∃ F' ps', (∀ i ∈ F', i ∈ F ∨ w.heap.size ≤ i) ∧ Tree w1 (B + 1) F' ps' ∧ (S', s.path ++ [p]) ∈ ps' ∧ ∀ q ∈ ps, q ∈ ps') hS hp ?_ ?_).mono ?_
    · intro W hW
      cases hx : s.X with
      | none => exact pmap_look_nil p W
      | some x =>
        obtain ⟨nX, f, b1, b2, b3⟩ := h0.next s hs x hx
        have hl := pmap_look (hW.pmap b2 (by simp)) p hp
        have hfn : f p = none := by
          cases hc : f p with
          | none => rfl
          | some i =>
            obtain ⟨t, ht, _, h3⟩ := (b3 p i).1 hc
            exact absurd h3 (hno t ht)
        rw [hfn] at hl
        exact hl
    · intro W hW hP
      refine ((h0.kept hW (fun _ _ => by simp)).grow hs p hno hp hnp hB).mono ?_
      rintro e w' ⟨hu, S', F', ns', ms', X', nX', f', fr', kp', g1, g2, g3, ⟨t, ht, g4, g4'⟩, g5, g6, g7, g8⟩
      refine ⟨hu, S', X', nX', f', _, _, _, _, _, g6, g1.get hP (fun hm => by have := h0.low _ hm; omega), g7, g8, ?_, F', ns'.map (fun s => (s.S, s.path)), ?_, ⟨ns', ms', g3, fun q => ?_⟩, ?_, ?_⟩
      · exact (hW.mono (fun i hi => by cases hi)).same g1
      · intro i hi
        rcases g2 i hi with e | e
        · exact .inl e
        · exact .inr (Nat.le_trans hW.size e)
      · simp only [List.mem_map]
        exact ⟨fun ⟨s, h1, h2⟩ => ⟨s, h1, h2.symm⟩, fun ⟨s, h1, h2⟩ => ⟨s, h1, h2.symm⟩⟩
      · exact List.mem_map.2 ⟨t, ht, by rw [g4, g4']⟩
      · intro q hq1
        obtain ⟨u, hu1, rfl⟩ := (hq q).1 hq1
        obtain ⟨u', a1, a2, a3⟩ := g5 u hu1
        exact List.mem_map.2 ⟨u', a1, by rw [a2, a3]⟩
    · rintro e w' ⟨S', w1, q, rfl, ⟨k1, F', ps', k2, k3, k4⟩, rfl⟩
      exact ⟨S', rfl, k1.drw q, F', ps', k2, k3.kept0 (Kx.drewN _ _ _), k4⟩
end Go.Proofs.YtdnjgemaenhcfaaGreatDoor
/- number at nil; orders. -/
set_option linter.unusedVariables false
namespace Go.Proofs.YtdnjgemaenhcfaaGreatDoor
open Go.RowKit Go.Shelf

theorem Kx.cell {T : List Nat} {w w' : World} (h : Kx T w w') {b i : Nat} {v : Value} (hc : w.cell? ⟨b, i, none⟩ = some v) (hb : b ∉ T) : w'.cell? ⟨b, i, none⟩ = some v := by
  have hlt : b < w.heap.size := by
    rcases Nat.lt_or_ge b w.heap.size with h1 | h1
    · exact h1
    · simp [World.cell?, Array.getElem?_eq_none h1] at hc
  have e := h.block b hlt hb
  simp only [World.cell?] at hc ⊢
  rw [e]
  exact hc
theorem Objs.kept {w w' : World} {H : Nat} {l : List Nat} (h : Objs w H l) (hk : Kx [] w w') : Objs w' H l := by
  obtain ⟨hl, ⟨h1, h2⟩ | ⟨h1, g, cap, h2, h3⟩⟩ := h
  · exact ⟨hl, .inl ⟨h1, hk.cell h2 (by simp)⟩⟩
  · exact ⟨hl, .inr ⟨h1, g, cap, hk.cell h2 (by simp), fun i b hb => ⟨hk.cell (h3 i b hb).1 (by simp), hk.cell (h3 i b hb).2 (by simp)⟩⟩⟩
set_option maxRecDepth 100000 in
set_option maxHeartbeats 2000000 in
theorem told_nil (w : World) : Calls Tryz.prog 39 #[.nilIface] w fun e w' => e = .returned (.tuple #[.int .i64 0, .int .i64 (-1)]) ∧ Kx [] w w' := by
  go_enter Tryz.func39, Tryz.ntmps39
  go_wp2
  go_ret2
  exact ⟨rfl, by first | exact (Kx.alloc _ _ _).alc _ | exact Kx.refl _ _⟩
set_option maxRecDepth 100000 in
set_option maxHeartbeats 2000000 in
theorem number_nil (w : World) : Calls Tryz.prog 19 #[.nilIface] w fun e w' => e = .returned (.int .i64 0) ∧ Kx [] w w' := by
  have c := told_nil w
  go_enter Tryz.func19, Tryz.ntmps19
  go_wp2_with (first | (go_at_call 39; refine c.mono ?_; rintro e w1 ⟨rfl, hk⟩))
  go_ret
  exact ⟨rfl, hk⟩
set_option maxRecDepth 100000 in
set_option maxHeartbeats 2000000 in
theorem numberOf_nil (w : World) : Calls Tryz.prog 52 #[.pointer none] w fun e w' => e = .returned (.int .i64 0) ∧ w' = w := by
  go_enter Tryz.func52, Tryz.ntmps52
  go_wp2
  go_ret
  exact ⟨rfl, rfl⟩
set_option maxRecDepth 100000 in
set_option maxHeartbeats 2000000 in
theorem alone_any (N n c : Nat) (a : Option Addr) (m k : Value) (w : World) (hN : w.heap[N]? = some (.cells #[.slice a n c, m, k] 121 (0, 0))) :
    Calls Tryz.prog 110 #[.pointer (some ⟨N, 0, none⟩)] w fun e w' => e = .returned (.pointer (some ⟨w.heap.size, 0, none⟩)) ∧ w' = w.alloc (.cells #[.pointer (some ⟨N, 0, none⟩), .int .i64 (n : Int), .pointer none, .map none, .bool true, .bool false] 118) := by
  have c0 := cell_at hN 0 rfl
  clear hN
  go_enter Tryz.func110, Tryz.ntmps110
  go_wp2
  go_ret
  exact ⟨rfl, rfl⟩
set_option maxRecDepth 100000 in
set_option maxHeartbeats 2000000 in
/-- pick, of two: some number. -/
theorem pick_any (c : Int) (w : World) (h1 : -9223372036854775808 ≤ c) (h2 : c ≤ 9223372036854775807) : Calls Tryz.prog 11 #[.int .i64 c, .int .i64 2] w fun e w' => (∃ z : Int, e = .returned (.int .i64 z)) ∧ w' = w := by
  by_cases h : c < 0
  · have v1 : IntKind.i64.wrap (c + 1) = c + 1 := by rw [IntKind.wrap_i64]; omega
    have v2 : IntKind.i64.wrap (-(c + 1)) = -(c + 1) := by rw [IntKind.wrap_i64]; omega
    go_enter Tryz.func11, Tryz.ntmps11
    go_wp2
    go_ret
    exact ⟨⟨_, rfl⟩, rfl⟩
  · go_enter Tryz.func11, Tryz.ntmps11
    go_wp2
    go_ret
    exact ⟨⟨_, rfl⟩, rfl⟩
end Go.Proofs.YtdnjgemaenhcfaaGreatDoor
/- What is told of a property. -/
set_option linter.unusedVariables false
namespace Go.Proofs.YtdnjgemaenhcfaaGreatDoor
open Go.RowKit Go.Shelf Go.Maps

theorem heap_setCell_ne {w : World} {g h : Nat} {o : Obj} (hg : w.heap[g]? = some o) (hne : h ≠ g) (j : Nat) (v : Value) : (w.setCell ⟨h, j, none⟩ v).heap[g]? = some o :=
  (Kx.setCell (S := [h]) w (p := ⟨h, j, none⟩) (by simp) v).get hg (by simp; exact fun e => hne e.symm)
theorem heap_set_at {w : World} {g : Nat} {C C' : Array Value} {t : TypeId} {fr : Nat × Nat} (h : w.heap[g]? = some (Obj.cells C t fr)) (j : Nat) (v : Value) (hC : C.setIfInBounds j v = C') : (w.setCell ⟨g, j, none⟩ v).heap[g]? = some (Obj.cells C' t fr) := hC ▸ heap_setCell h j v
theorem run_store_flt (P : Program) (w : World) (a : Addr) (m : Mode) (k : FloatKind) (n : Nat) : (store a (.float k n) m).run P w = stored P w a (.float k n) m := run_store P w a _ m rfl
attribute [local go_sem] run_store_flt
theorem tellsF_any (p0 p1 p2 p3 p4 p5 p6 p7 p8 p9 : Value) (hv hg hs hw he hc : Bool) (w : World) :
    Calls Tryz.prog 62 #[.agg #[p0, p1, p2, p3, p4, p5, p6, p7, p8, p9, .bool hv, .bool hg, .bool hs, .bool hw, .bool he, .bool hc]] w fun e w' => e = .returned (.bool (hg || hs)) ∧ w' = w.alloc (Obj.cells #[p0, p1, p2, p3, p4, p5, p6, p7, p8, p9, .bool hv, .bool hg, .bool hs, .bool hw, .bool he, .bool hc] 99) := by
  cases hg <;>
  · go_enter Tryz.func62, Tryz.ntmps62
    go_wp2
    go_ret
    exact ⟨rfl, rfl⟩
theorem tellsV_any (p0 p1 p2 p3 p4 p5 p6 p7 p8 p9 : Value) (hv hg hs hw he hc : Bool) (w : World) :
    Calls Tryz.prog 63 #[.agg #[p0, p1, p2, p3, p4, p5, p6, p7, p8, p9, .bool hv, .bool hg, .bool hs, .bool hw, .bool he, .bool hc]] w fun e w' => e = .returned (.bool (hv || hw)) ∧ w' = w.alloc (Obj.cells #[p0, p1, p2, p3, p4, p5, p6, p7, p8, p9, .bool hv, .bool hg, .bool hs, .bool hw, .bool he, .bool hc] 99) := by
  cases hv <;>
  · go_enter Tryz.func63, Tryz.ntmps63
    go_wp2
    go_ret
    exact ⟨rfl, rfl⟩
set_option maxRecDepth 100000 in
set_option maxHeartbeats 2000000 in
/-- with, where a value and all three flags are told of a property that is no functions. -/
theorem with_all (q0 q1 q2 p0 p1 p2 p3 : Bool) (q4 p4 : Int) (q5 p5 : Nat) (q6 p6 : ByteArray) (q7 q8 q9 p7 p8 p9 : Option Addr) (w : World) :
    Calls Tryz.prog 67 #[.agg #[.bool q0, .bool q1, .bool q2, .bool false, .int .i64 q4, .float .f64 q5, .string q6, .pointer q7, .pointer q8, .pointer q9], .agg #[.bool p0, .bool p1, .bool p2, .bool p3, .int .i64 p4, .float .f64 p5, .string p6, .pointer p7, .pointer p8, .pointer p9, .bool true, .bool false, .bool false, .bool true, .bool true, .bool true]] w fun e w' => e = .returned (.agg #[.bool p0, .bool p1, .bool p2, .bool false, .int .i64 p4, .float .f64 p5, .string p6, .pointer p7, .pointer q8, .pointer q9]) ∧ Kx [] w w' := by
  have c := fun W => tellsF_any (.bool p0) (.bool p1) (.bool p2) (.bool p3) (.int .i64 p4) (.float .f64 p5) (.string p6) (.pointer p7) (.pointer p8) (.pointer p9) true false false true true true W
  rw [Bool.or_false] at c
  obtain ⟨W1, hW1⟩ : ∃ W1, W1 = ((((w.alloc (Obj.cells #[.bool q0, .bool q1, .bool q2, .bool false, .int .i64 q4, .float .f64 q5, .string q6, .pointer q7, .pointer q8, .pointer q9] 75)).alloc (Obj.cells #[.bool p0, .bool p1, .bool p2, .bool p3, .int .i64 p4, .float .f64 p5, .string p6, .pointer p7, .pointer p8, .pointer p9, .bool true, .bool false, .bool false, .bool true, .bool true, .bool true] 99)).alloc (Obj.cells #[.bool false, .bool false, .bool false, .bool false, .int .i64 0, .float .f64 0, .string ⟨#[]⟩, .pointer none, .pointer none, .pointer none] 75)).alloc (Obj.cells #[.bool p0, .bool p1, .bool p2, .bool p3, .int .i64 p4, .float .f64 p5, .string p6, .pointer p7, .pointer p8, .pointer p9, .bool true, .bool false, .bool false, .bool true, .bool true, .bool true] 99)) := ⟨_, rfl⟩
  have hk : Hid (Kx [] w W1) := by rw [hW1]; exact (show Kx [] w _ from (((Kx.alloc _ _ _).alc _).alc _).alc _)
  have hP : W1.heap[w.heap.size]? = some (Obj.cells #[.bool q0, .bool q1, .bool q2, .bool false, .int .i64 q4, .float .f64 q5, .string q6, .pointer q7, .pointer q8, .pointer q9] 75 (0, 0)) := by rw [hW1]; exact heap_old (heap_old (heap_old (heap_alloc_new _ _) _) _) _
  have hT : W1.heap[w.heap.size + 1]? = some (Obj.cells #[.bool p0, .bool p1, .bool p2, .bool p3, .int .i64 p4, .float .f64 p5, .string p6, .pointer p7, .pointer p8, .pointer p9, .bool true, .bool false, .bool false, .bool true, .bool true, .bool true] 99 (0, 0)) := by
    have e : w.heap.size + 1 = (w.alloc (Obj.cells #[.bool q0, .bool q1, .bool q2, .bool false, .int .i64 q4, .float .f64 q5, .string q6, .pointer q7, .pointer q8, .pointer q9] 75)).heap.size := by simp
    rw [hW1, e]; exact heap_old (heap_old (heap_alloc_new _ _) _) _
  have hR : W1.heap[w.heap.size + 1 + 1]? = some (Obj.cells #[.bool false, .bool false, .bool false, .bool false, .int .i64 0, .float .f64 0, .string ⟨#[]⟩, .pointer none, .pointer none, .pointer none] 75 (0, 0)) := by
    have e : w.heap.size + 1 + 1 = ((w.alloc (Obj.cells #[.bool q0, .bool q1, .bool q2, .bool false, .int .i64 q4, .float .f64 q5, .string q6, .pointer q7, .pointer q8, .pointer q9] 75)).alloc (Obj.cells #[.bool p0, .bool p1, .bool p2, .bool p3, .int .i64 p4, .float .f64 p5, .string p6, .pointer p7, .pointer p8, .pointer p9, .bool true, .bool false, .bool false, .bool true, .bool true, .bool true] 99)).heap.size := by simp
    rw [hW1, e]; exact heap_old (heap_alloc_new _ _) _
  go_enter Tryz.func67, Tryz.ntmps67
  go_wp2_with (first | (go_at_call 62; fail))
  refine (c _).mono ?_
  rintro e w1 ⟨rfl, rfl⟩
  rw [← hW1]
  clear hW1 c
  have cP0 : W1.cell? ⟨w.heap.size, 0, none⟩ = some (.bool q0) := by simp [World.cell?, hP]
  have fP0 : W1.frozen? ⟨w.heap.size, 0, none⟩ = false := by simp [World.frozen?, hP]
  have cP1 : W1.cell? ⟨w.heap.size, 1, none⟩ = some (.bool q1) := by simp [World.cell?, hP]
  have fP1 : W1.frozen? ⟨w.heap.size, 1, none⟩ = false := by simp [World.frozen?, hP]
  have cP2 : W1.cell? ⟨w.heap.size, 2, none⟩ = some (.bool q2) := by simp [World.cell?, hP]
  have fP2 : W1.frozen? ⟨w.heap.size, 2, none⟩ = false := by simp [World.frozen?, hP]
  have cP3 : W1.cell? ⟨w.heap.size, 3, none⟩ = some (.bool false) := by simp [World.cell?, hP]
  have fP3 : W1.frozen? ⟨w.heap.size, 3, none⟩ = false := by simp [World.frozen?, hP]
  have cP4 : W1.cell? ⟨w.heap.size, 4, none⟩ = some (.int .i64 q4) := by simp [World.cell?, hP]
  have fP4 : W1.frozen? ⟨w.heap.size, 4, none⟩ = false := by simp [World.frozen?, hP]
  have cP5 : W1.cell? ⟨w.heap.size, 5, none⟩ = some (.float .f64 q5) := by simp [World.cell?, hP]
  have fP5 : W1.frozen? ⟨w.heap.size, 5, none⟩ = false := by simp [World.frozen?, hP]
  have cP6 : W1.cell? ⟨w.heap.size, 6, none⟩ = some (.string q6) := by simp [World.cell?, hP]
  have fP6 : W1.frozen? ⟨w.heap.size, 6, none⟩ = false := by simp [World.frozen?, hP]
  have cP7 : W1.cell? ⟨w.heap.size, 7, none⟩ = some (.pointer q7) := by simp [World.cell?, hP]
  have fP7 : W1.frozen? ⟨w.heap.size, 7, none⟩ = false := by simp [World.frozen?, hP]
  have cP8 : W1.cell? ⟨w.heap.size, 8, none⟩ = some (.pointer q8) := by simp [World.cell?, hP]
  have fP8 : W1.frozen? ⟨w.heap.size, 8, none⟩ = false := by simp [World.frozen?, hP]
  have cP9 : W1.cell? ⟨w.heap.size, 9, none⟩ = some (.pointer q9) := by simp [World.cell?, hP]
  have fP9 : W1.frozen? ⟨w.heap.size, 9, none⟩ = false := by simp [World.frozen?, hP]
  have cT0 : W1.cell? ⟨w.heap.size + 1, 0, none⟩ = some (.bool p0) := by simp [World.cell?, hT]
  have cT1 : W1.cell? ⟨w.heap.size + 1, 1, none⟩ = some (.bool p1) := by simp [World.cell?, hT]
  have cT2 : W1.cell? ⟨w.heap.size + 1, 2, none⟩ = some (.bool p2) := by simp [World.cell?, hT]
  have cT3 : W1.cell? ⟨w.heap.size + 1, 3, none⟩ = some (.bool p3) := by simp [World.cell?, hT]
  have cT4 : W1.cell? ⟨w.heap.size + 1, 4, none⟩ = some (.int .i64 p4) := by simp [World.cell?, hT]
  have cT5 : W1.cell? ⟨w.heap.size + 1, 5, none⟩ = some (.float .f64 p5) := by simp [World.cell?, hT]
  have cT6 : W1.cell? ⟨w.heap.size + 1, 6, none⟩ = some (.string p6) := by simp [World.cell?, hT]
  have cT7 : W1.cell? ⟨w.heap.size + 1, 7, none⟩ = some (.pointer p7) := by simp [World.cell?, hT]
  have cT8 : W1.cell? ⟨w.heap.size + 1, 8, none⟩ = some (.pointer p8) := by simp [World.cell?, hT]
  have cT9 : W1.cell? ⟨w.heap.size + 1, 9, none⟩ = some (.pointer p9) := by simp [World.cell?, hT]
  have cT10 : W1.cell? ⟨w.heap.size + 1, 10, none⟩ = some (.bool true) := by simp [World.cell?, hT]
  have cT11 : W1.cell? ⟨w.heap.size + 1, 11, none⟩ = some (.bool false) := by simp [World.cell?, hT]
  have cT12 : W1.cell? ⟨w.heap.size + 1, 12, none⟩ = some (.bool false) := by simp [World.cell?, hT]
  have cT13 : W1.cell? ⟨w.heap.size + 1, 13, none⟩ = some (.bool true) := by simp [World.cell?, hT]
  have cT14 : W1.cell? ⟨w.heap.size + 1, 14, none⟩ = some (.bool true) := by simp [World.cell?, hT]
  have cT15 : W1.cell? ⟨w.heap.size + 1, 15, none⟩ = some (.bool true) := by simp [World.cell?, hT]
  have cR0 : W1.cell? ⟨w.heap.size + 1 + 1, 0, none⟩ = some (.bool false) := by simp [World.cell?, hR]
  have fR0 : W1.frozen? ⟨w.heap.size + 1 + 1, 0, none⟩ = false := by simp [World.frozen?, hR]
  have cR1 : W1.cell? ⟨w.heap.size + 1 + 1, 1, none⟩ = some (.bool false) := by simp [World.cell?, hR]
  have fR1 : W1.frozen? ⟨w.heap.size + 1 + 1, 1, none⟩ = false := by simp [World.frozen?, hR]
  have cR2 : W1.cell? ⟨w.heap.size + 1 + 1, 2, none⟩ = some (.bool false) := by simp [World.cell?, hR]
  have fR2 : W1.frozen? ⟨w.heap.size + 1 + 1, 2, none⟩ = false := by simp [World.frozen?, hR]
  have cR3 : W1.cell? ⟨w.heap.size + 1 + 1, 3, none⟩ = some (.bool false) := by simp [World.cell?, hR]
  have fR3 : W1.frozen? ⟨w.heap.size + 1 + 1, 3, none⟩ = false := by simp [World.frozen?, hR]
  have cR4 : W1.cell? ⟨w.heap.size + 1 + 1, 4, none⟩ = some (.int .i64 0) := by simp [World.cell?, hR]
  have fR4 : W1.frozen? ⟨w.heap.size + 1 + 1, 4, none⟩ = false := by simp [World.frozen?, hR]
  have cR5 : W1.cell? ⟨w.heap.size + 1 + 1, 5, none⟩ = some (.float .f64 0) := by simp [World.cell?, hR]
  have fR5 : W1.frozen? ⟨w.heap.size + 1 + 1, 5, none⟩ = false := by simp [World.frozen?, hR]
  have cR6 : W1.cell? ⟨w.heap.size + 1 + 1, 6, none⟩ = some (.string ⟨#[]⟩) := by simp [World.cell?, hR]
  have fR6 : W1.frozen? ⟨w.heap.size + 1 + 1, 6, none⟩ = false := by simp [World.frozen?, hR]
  have cR7 : W1.cell? ⟨w.heap.size + 1 + 1, 7, none⟩ = some (.pointer none) := by simp [World.cell?, hR]
  have fR7 : W1.frozen? ⟨w.heap.size + 1 + 1, 7, none⟩ = false := by simp [World.frozen?, hR]
  have cR8 : W1.cell? ⟨w.heap.size + 1 + 1, 8, none⟩ = some (.pointer none) := by simp [World.cell?, hR]
  have fR8 : W1.frozen? ⟨w.heap.size + 1 + 1, 8, none⟩ = false := by simp [World.frozen?, hR]
  have cR9 : W1.cell? ⟨w.heap.size + 1 + 1, 9, none⟩ = some (.pointer none) := by simp [World.cell?, hR]
  have fR9 : W1.frozen? ⟨w.heap.size + 1 + 1, 9, none⟩ = false := by simp [World.frozen?, hR]
  have HP := (show Hid _ from hP)
  have HR := (show Hid _ from hR)
  clear hP hT hR
  go_wp2
  have r0 := (heap_setCell_ne (heap_setCell_ne (heap_setCell_ne (heap_setCell_ne (heap_setCell_ne (heap_setCell_ne (heap_setCell_ne HR.out (show w.heap.size ≠ w.heap.size + 1 + 1 by omega) 4 (.int .i64 p4)) (show w.heap.size ≠ w.heap.size + 1 + 1 by omega) 5 (.float .f64 p5)) (show w.heap.size ≠ w.heap.size + 1 + 1 by omega) 6 (.string p6)) (show w.heap.size ≠ w.heap.size + 1 + 1 by omega) 7 (.pointer p7)) (show w.heap.size ≠ w.heap.size + 1 + 1 by omega) 0 (.bool p0)) (show w.heap.size ≠ w.heap.size + 1 + 1 by omega) 1 (.bool p1)) (show w.heap.size ≠ w.heap.size + 1 + 1 by omega) 2 (.bool p2))
  have r1 := heap_set_at (C' := #[.bool p0, .bool false, .bool false, .bool false, .int .i64 0, .float .f64 0, .string ⟨#[]⟩, .pointer none, .pointer none, .pointer none]) r0 0 (.bool p0) rfl
  have r2 := heap_set_at (C' := #[.bool p0, .bool p1, .bool false, .bool false, .int .i64 0, .float .f64 0, .string ⟨#[]⟩, .pointer none, .pointer none, .pointer none]) r1 1 (.bool p1) rfl
  have r3 := heap_set_at (C' := #[.bool p0, .bool p1, .bool p2, .bool false, .int .i64 0, .float .f64 0, .string ⟨#[]⟩, .pointer none, .pointer none, .pointer none]) r2 2 (.bool p2) rfl
  have r4 := heap_set_at (C' := #[.bool p0, .bool p1, .bool p2, .bool false, .int .i64 0, .float .f64 0, .string ⟨#[]⟩, .pointer none, .pointer none, .pointer none]) r3 3 (.bool false) rfl
  have r5 := heap_set_at (C' := #[.bool p0, .bool p1, .bool p2, .bool false, .int .i64 p4, .float .f64 0, .string ⟨#[]⟩, .pointer none, .pointer none, .pointer none]) r4 4 (.int .i64 p4) rfl
  have r6 := heap_set_at (C' := #[.bool p0, .bool p1, .bool p2, .bool false, .int .i64 p4, .float .f64 p5, .string ⟨#[]⟩, .pointer none, .pointer none, .pointer none]) r5 5 (.float .f64 p5) rfl
  have r7 := heap_set_at (C' := #[.bool p0, .bool p1, .bool p2, .bool false, .int .i64 p4, .float .f64 p5, .string p6, .pointer none, .pointer none, .pointer none]) r6 6 (.string p6) rfl
  have r8 := heap_set_at (C' := #[.bool p0, .bool p1, .bool p2, .bool false, .int .i64 p4, .float .f64 p5, .string p6, .pointer p7, .pointer none, .pointer none]) r7 7 (.pointer p7) rfl
  have r9 := heap_set_at (C' := #[.bool p0, .bool p1, .bool p2, .bool false, .int .i64 p4, .float .f64 p5, .string p6, .pointer p7, .pointer q8, .pointer none]) r8 8 (.pointer q8) rfl
  have r10 := heap_set_at (C' := #[.bool p0, .bool p1, .bool p2, .bool false, .int .i64 p4, .float .f64 p5, .string p6, .pointer p7, .pointer q8, .pointer q9]) r9 9 (.pointer q9) rfl
  clear r0 r1 r2 r3 r4 r5 r6 r7 r8 r9
  refine bodyPost_ret (results_cell_row rfl _ _ (w.heap.size + 1 + 1) 75 _ (0, 0) _ rfl r10 Tryz.underlying75 rfl (by kernel_rfl)) rfl ?_
  exact ⟨rfl, hk.out.trans ((((((((((((((((((Kx.refl [w.heap.size, w.heap.size + 1 + 1] W1).set (by simp) _).set (by simp) _).set (by simp) _).set (by simp) _).set (by simp) _).set (by simp) _).set (by simp) _).set (by simp) _).set (by simp) _).set (by simp) _).set (by simp) _).set (by simp) _).set (by simp) _).set (by simp) _).set (by simp) _).set (by simp) _).set (by simp) _) (fun i hi => .inr (by simp at hi; omega))⟩
end Go.Proofs.YtdnjgemaenhcfaaGreatDoor
