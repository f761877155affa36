/- The law behind its first loop: what stands between its calls. -/
import Derived.Test.YtmicdbplkfdfnaaGreatDoorDHv2x
set_option linter.unusedVariables false
namespace Go.Proofs.YtmicdbplkfdfnaaGreatDoor
open Go.RowKit Go.Shelf Go.Maps

def Tri (w : World) (O H : Nat) (hv : Value) (S0 D ba bb bc : Nat) (m : Nat) (L Lc : List ByteArray) (k : Int) (x : Nat) (tx : ByteArray) (wr : World) : Prop :=
  ∃ B F ps Sa Sb Sc nva nvb nvc vsa vsb vsc, HSt wr w.heap.size O H hv S0 B F ps [⟨ba, Sa, L.map allS, nva, vsa⟩, ⟨bb, Sb, L.map allS, nvb, vsb⟩, ⟨bc, Sc, Lc.map allS, nvc, vsc⟩] ∧ B ≤ m ∧ Free wr F H hv [⟨ba, Sa, L.map allS, nva, vsa⟩, ⟨bb, Sb, L.map allS, nvb, vsb⟩, ⟨bc, Sc, Lc.map allS, nvc, vsc⟩] D ∧
    wr.heap[D]? = some (.cells (descA k x tx) 34 (0, 0)) ∧ Below w.heap.size w wr ∧ w.heap.size ≤ D
theorem Mid.tri {w : World} {O H : Nat} {hv : Value} {S0 D ba bb bc m : Nat} {L : List ByteArray} {k : Int} {x : Nat} {tx : ByteArray} {wr : World} (h : Mid w O H hv S0 D ba bb bc m L L k x tx wr) : Tri w O H hv S0 D ba bb bc m L [] k x tx wr := by
  obtain ⟨B, F, ps, Sa, Sb, nva, nvb, vsa, vsb, h1, h2, h3, h4, h5, h6⟩ := h
  exact ⟨B, F, ps, Sa, Sb, S0, nva, nvb, _, vsa, vsb, [], h1, h2, h3, h4, h5, h6⟩
theorem Tri.kept0 {w : World} {O H : Nat} {hv : Value} {S0 D ba bb bc m : Nat} {L Lc : List ByteArray} {k : Int} {x : Nat} {tx : ByteArray} {wr W : World} (h : Tri w O H hv S0 D ba bb bc m L Lc k x tx wr) (hk : Kx [] wr W) : Tri w O H hv S0 D ba bb bc m L Lc k x tx W := by
  obtain ⟨B, F, ps, Sa, Sb, Sc, nva, nvb, nvc, vsa, vsb, vsc, h1, h2, h3, h4, h5, h6⟩ := h
  exact ⟨B, F, ps, Sa, Sb, Sc, nva, nvb, nvc, vsa, vsb, vsc, h1.kept0 hk, h2, h3.kept0 hk.size, hk.get h4 (by simp), h5.trans (hk.below h5.size (by simp)), h6⟩
theorem Tri.below {w : World} {O H : Nat} {hv : Value} {S0 D ba bb bc m : Nat} {L Lc : List ByteArray} {k : Int} {x : Nat} {tx : ByteArray} {wr : World} (h : Tri w O H hv S0 D ba bb bc m L Lc k x tx wr) : Below w.heap.size w wr := by
  obtain ⟨B, F, ps, Sa, Sb, Sc, nva, nvb, nvc, vsa, vsb, vsc, h1, h2, h3, h4, h5, h6⟩ := h
  exact h5
theorem Tri.desc {w : World} {O H : Nat} {hv : Value} {S0 D ba bb bc m : Nat} {L Lc : List ByteArray} {k : Int} {x : Nat} {tx : ByteArray} {wr : World} (h : Tri w O H hv S0 D ba bb bc m L Lc k x tx wr) : wr.heap[D]? = some (.cells (descA k x tx) 34 (0, 0)) := by
  obtain ⟨B, F, ps, Sa, Sb, Sc, nva, nvb, nvc, vsa, vsb, vsc, h1, h2, h3, h4, h5, h6⟩ := h
  exact h4
theorem Tri.mono {w : World} {O H : Nat} {hv : Value} {S0 D ba bb bc m m' : Nat} {L Lc : List ByteArray} {k : Int} {x : Nat} {tx : ByteArray} {wr : World} (h : Tri w O H hv S0 D ba bb bc m L Lc k x tx wr) (hm : m ≤ m') : Tri w O H hv S0 D ba bb bc m' L Lc k x tx wr := by
  obtain ⟨B, F, ps, Sa, Sb, Sc, nva, nvb, nvc, vsa, vsb, vsc, h1, h2, h3, h4, h5, h6⟩ := h
  exact ⟨B, F, ps, Sa, Sb, Sc, nva, nvb, nvc, vsa, vsb, vsc, h1, by omega, h3, h4, h5, h6⟩
theorem Tri.ownC {w : World} {O H : Nat} {hv : Value} {S0 D ba bb bc m : Nat} {L Lc : List ByteArray} {k : Int} {x : Nat} {tx : ByteArray} {wr : World} (h : Tri w O H hv S0 D ba bb bc m L Lc k x tx wr) (hT : Lib.Utf8Tabs 2 3 w) (s : ByteArray) (hss : s.size ≤ 1048576) (hL : Lc.length ≤ 900) (has : Bool) (hh : has = true ↔ (ixOf (unitsS s) < 0 ∧ nmOf s ∈ Lc)) :
    Calls Tryz.prog 10 #[.pointer (some ⟨O, 0, none⟩), .int .i64 3, .string s] wr fun e w' => DescIs e has ∧ Kx [] wr w' := by
  obtain ⟨B, F, ps, Sa, Sb, Sc, nva, nvb, nvc, vsa, vsb, vsc, h1, h2, h3, h4, h5, h6⟩ := h
  refine h1.own (i := 2) rfl s (by omega) (txtS_size s hss) (by simp; exact hL) (tabs_below hT h5) has ?_
  rw [nms_all]
  exact hh
theorem Tri.defC {w : World} {O H : Nat} {hv : Value} {S0 D ba bb bc m : Nat} {L Lc : List ByteArray} {x : Nat} {wr : World} (h : Tri w O H hv S0 D ba bb bc m L Lc 4 x xT wr) (hT : Lib.Utf8Tabs 2 3 w) (s : ByteArray) (hss : s.size ≤ 1048576) (hv' : valid s) (hn : nmOf s ∉ Lc) (hL : Lc.length ≤ 900) (hm : m ≤ 900) :
    Calls Tryz.prog 7 #[.pointer (some ⟨O, 0, none⟩), .int .i64 3, .string s, .agg (descA 4 x xT)] wr fun e w' => e = .returned (.int .i64 0) ∧ Tri w O H hv S0 D ba bb bc (m + 1) L (Lc ++ [nmOf s]) 4 x xT w' := by
  obtain ⟨B, F, ps, Sa, Sb, Sc, nva, nvb, nvc, vsa, vsb, vsc, h1, h2, h3, h4, h5, h6⟩ := h
  refine (h1.define (i := 2) rfl s (by omega) hv'.2 (by rw [nms_all]; exact hn) (txtS_size s hss) (by omega) (by simp; exact hL) (tabs_below hT h5) 4 0 0 0 x xT (4, 0, txt (unitsS xT)) (fun W hW => value_txt O x xT (by decide) 0 W (tabs_kx (tabs_below hT h5) hW))).mono ?_
  rintro e w' ⟨rfl, S', nv', F', ps', k1, k2, k3, k4⟩
  refine ⟨rfl, B + 1, F', ps', Sa, Sb, S', nva, nvb, nv', vsa, vsb, vsc ++ [(4, 0, txt (unitsS xT))], ?_, by omega, ?_, ?_, h5.trans k3, h6⟩
  · rw [map_snoc]; exact k1
  · rw [map_snoc]; exact (k4 D h3).1
  · exact (k4 D h3).2.trans h4
theorem all_inj {L Lc : List ByteArray} : L.map allS = Lc.map allS ↔ L = Lc := by
  constructor
  · intro h
    have := congrArg nms h
    rwa [nms_all, nms_all] at this
  · intro h
    rw [h]
theorem Tri.sameC {w : World} {O H : Nat} {hv : Value} {S0 D ba bb bc m : Nat} {L Lc : List ByteArray} {k : Int} {x : Nat} {tx : ByteArray} {wr : World} (h : Tri w O H hv S0 D ba bb bc m L Lc k x tx wr) (sm : Bool) (hsm : sm = true ↔ L = Lc) :
    Calls Tryz.prog 14 #[.pointer (some ⟨O, 0, none⟩), .int .i64 1, .int .i64 3] wr fun e w' => e = .returned (.bool sm) ∧ ∃ q, w' = wr.drewN q := by
  obtain ⟨B, F, ps, Sa, Sb, Sc, nva, nvb, nvc, vsa, vsb, vsc, h1, h2, h3, h4, h5, h6⟩ := h
  exact h1.same (i := 0) (j := 2) rfl rfl sm (by rw [hsm]; exact all_inj.symm)
theorem Tri.keysA {w : World} {O H : Nat} {hv : Value} {S0 D ba bb bc m : Nat} {L Lc : List ByteArray} {k : Int} {x : Nat} {tx : ByteArray} {wr : World} (h : Tri w O H hv S0 D ba bb bc m L Lc k x tx wr) (hm : m ≤ 900) :
    Calls Tryz.prog 8 #[.pointer (some ⟨O, 0, none⟩), .int .i64 1] wr fun e w' => ∃ v, e = .returned v ∧ w'.ownsRow wr.heap.size 9 1 v L.length (L.map Value.string) ∧ Kx [] wr w' := by
  obtain ⟨B, F, ps, Sa, Sb, Sc, nva, nvb, nvc, vsa, vsb, vsc, h1, h2, h3, h4, h5, h6⟩ := h
  have c := h1.keys (i := 0) rfl (by omega)
  rw [nms_all] at c
  exact c
theorem Tri.keysC {w : World} {O H : Nat} {hv : Value} {S0 D ba bb bc m : Nat} {L Lc : List ByteArray} {k : Int} {x : Nat} {tx : ByteArray} {wr : World} (h : Tri w O H hv S0 D ba bb bc m L Lc k x tx wr) (hm : m ≤ 900) :
    Calls Tryz.prog 8 #[.pointer (some ⟨O, 0, none⟩), .int .i64 3] wr fun e w' => ∃ v, e = .returned v ∧ w'.ownsRow wr.heap.size 9 1 v Lc.length (Lc.map Value.string) ∧ Kx [] wr w' := by
  obtain ⟨B, F, ps, Sa, Sb, Sc, nva, nvb, nvc, vsa, vsb, vsc, h1, h2, h3, h4, h5, h6⟩ := h
  have c := h1.keys (i := 2) rfl (by omega)
  rw [nms_all] at c
  exact c
theorem Tri.del {w : World} {O H : Nat} {hv : Value} {S0 D ba bb bc m : Nat} {L Lc : List ByteArray} {k : Int} {x : Nat} {tx : ByteArray} {wr : World} (h : Tri w O H hv S0 D ba bb bc m L Lc k x tx wr) (hT : Lib.Utf8Tabs 2 3 w) (s : ByteArray) (hss : s.size ≤ 1048576) (hv' : valid s) (hn : nmOf s ∈ L) (hL : L.length ≤ 900) (hm : m ≤ 900) :
    Calls Tryz.prog 12 #[.pointer (some ⟨O, 0, none⟩), .int .i64 1, .string s] wr fun e w' => e = .returned (.int .i64 0) ∧ Below w.heap.size w w' ∧ Calls Tryz.prog 14 #[.pointer (some ⟨O, 0, none⟩), .int .i64 1, .int .i64 2] w' fun e w'' => e = .returned (.bool false) ∧ ∃ q, w'' = w'.drewN q := by
  obtain ⟨B, F, ps, Sa, Sb, Sc, nva, nvb, nvc, vsa, vsb, vsc, h1, h2, h3, h4, h5, h6⟩ := h
  refine (h1.delSame (i := 0) (j := 1) rfl rfl (by decide) s (by omega) hv'.2 (by rw [nms_all]; exact hn) (by omega) (by simp; exact hL) (tabs_below hT h5)).mono ?_
  rintro e w' ⟨rfl, k1, k2⟩
  exact ⟨rfl, h5.trans k1, k2⟩
/-- The second loop: behind it the same names came. -/
def In2 (w : World) (O H : Nat) (hv : Value) (S0 D ba bb bc : Nat) (ks : List ByteArray) (L : List ByteArray) (r : Nat) (Lc : List ByteArray) (wr : World) : Prop :=
  ∃ k x tx, Tri w O H hv S0 D ba bb bc (2 * ks.length + (ks.length - r)) L Lc k x tx wr ∧ (L ≠ [] → k = 4 ∧ tx = xT) ∧ Lc.length ≤ ks.length - r ∧ CameK (ks.drop r).reverse Lc
theorem drop_rev {ks : List ByteArray} {r : Nat} {s : ByteArray} (hs : ks[r]? = some s) : (ks.drop r).reverse = (ks.drop (r + 1)).reverse ++ [s] := by
  have : ks.drop r = s :: ks.drop (r + 1) := by
    have h1 := (List.getElem?_eq_some_iff.1 hs)
    rw [List.drop_eq_getElem_cons h1.1, h1.2]
  rw [this, List.reverse_cons]
theorem In2.skip {w : World} {O H : Nat} {hv : Value} {S0 D ba bb bc : Nat} {ks L : List ByteArray} {r : Nat} {Lc : List ByteArray} {wr W : World} (h : In2 w O H hv S0 D ba bb bc ks L (r + 1) Lc wr) (hk : Kx [] wr W) {s : ByteArray} (hs : ks[r]? = some s) (hno : ¬ (valid s ∧ nmOf s ∉ Lc)) : In2 w O H hv S0 D ba bb bc ks L r Lc W := by
  obtain ⟨k, x, tx, h1, h2, h3, h4⟩ := h
  exact ⟨k, x, tx, (h1.kept0 hk).mono (by omega), h2, by omega, by rw [drop_rev hs]; exact h4.skip hno⟩
theorem In2.add {w : World} {O H : Nat} {hv : Value} {S0 D ba bb bc : Nat} {ks L : List ByteArray} {r : Nat} {Lc : List ByteArray} {wr W : World} (h : In2 w O H hv S0 D ba bb bc ks L (r + 1) Lc wr) {s : ByteArray} (hs : ks[r]? = some s) (hv' : valid s) (hn : nmOf s ∉ Lc) {x : Nat} (hm : Tri w O H hv S0 D ba bb bc (2 * ks.length + (ks.length - (r + 1)) + 1) L (Lc ++ [nmOf s]) 4 x xT W) : In2 w O H hv S0 D ba bb bc ks L r (Lc ++ [nmOf s]) W := by
  obtain ⟨k, x', tx, h1, h2, h3, h4⟩ := h
  have hr := (List.getElem?_eq_some_iff.1 hs).1
  exact ⟨4, x, xT, hm.mono (by omega), fun _ => ⟨rfl, rfl⟩, by simp; omega, by rw [drop_rev hs]; exact h4.add hv' hn⟩
theorem CameK.len {ks ks' L L' : List ByteArray} (h : CameK ks L) (h' : CameK ks' L') (hk : ∀ s, s ∈ ks ↔ s ∈ ks') : L.length = L'.length := by
  have sub : ∀ {a b la lb : List ByteArray}, CameK a la → CameK b lb → (∀ s, s ∈ a → s ∈ b) → la.length ≤ lb.length := by
    intro a b la lb ha hb hs
    refine nodup_le la lb ha.1 (fun y hy => ?_)
    obtain ⟨s, h1, h2⟩ := (ha.2 y).1 hy
    exact (hb.2 y).2 ⟨s, hs s h1, h2⟩
  exact Nat.le_antisymm (sub h h' (fun s hs => (hk s).1 hs)) (sub h' h (fun s hs => (hk s).2 hs))
end Go.Proofs.YtmicdbplkfdfnaaGreatDoor
