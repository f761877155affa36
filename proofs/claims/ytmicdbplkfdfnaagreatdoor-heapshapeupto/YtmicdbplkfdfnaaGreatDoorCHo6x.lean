/- Object.Own, where the name is there. -/
import Derived.Test.YtmicdbplkfdfnaaGreatDoorCHt2x
import Derived.Test.YtmicdbplkfdfnaaGreatDoorCTj1x
set_option linter.unusedVariables false
namespace Go.Proofs.YtmicdbplkfdfnaaGreatDoor
open Go.RowKit Go.Shelf Go.Maps

attribute [local go_sem] run_store_flt
set_option maxRecDepth 100000 in
set_option maxHeartbeats 2000000 in
theorem own_yes (b S i m cap g : Nat) (hi : i < m) (hm : m ≤ 1000) (p0 p1 p2 p3 : Bool) (p4 : Int) (p5 : Nat) (p6 : ByteArray) (p7 p8 p9 : Option Addr) (nm : ByteArray) (n : Int) (w : World) (h6 : w.cell? ⟨b, 6, none⟩ = some (.slice (some ⟨g, 0, none⟩) m cap))
    (e0 : w.cell? ⟨g, i * 10, none⟩ = some (.bool p0))
    (e1 : w.cell? ⟨g, i * 10 + 1, none⟩ = some (.bool p1))
    (e2 : w.cell? ⟨g, i * 10 + 2, none⟩ = some (.bool p2))
    (e3 : w.cell? ⟨g, i * 10 + 3, none⟩ = some (.bool p3))
    (e4 : w.cell? ⟨g, i * 10 + 4, none⟩ = some (.int .i64 p4))
    (e5 : w.cell? ⟨g, i * 10 + 5, none⟩ = some (.float .f64 p5))
    (e6 : w.cell? ⟨g, i * 10 + 6, none⟩ = some (.string p6))
    (e7 : w.cell? ⟨g, i * 10 + 7, none⟩ = some (.pointer p7))
    (e8 : w.cell? ⟨g, i * 10 + 8, none⟩ = some (.pointer p8))
    (e9 : w.cell? ⟨g, i * 10 + 9, none⟩ = some (.pointer p9))
    (h5 : w.cell? ⟨b, 5, none⟩ = some (.pointer (some ⟨S, 0, none⟩)))
    (cf : ∀ W, Kx [] w W → Calls Tryz.prog 51 #[.pointer (some ⟨S, 0, none⟩), .string nm] W fun e w' => e = .returned (.tuple #[.int .i64 (i : Int), .bool true]) ∧ ∃ q, w' = W.drewN q) :
    Calls Tryz.prog 25 #[.pointer (some ⟨b, 0, none⟩), .agg #[.string nm, .int .u32 n, .bool false]] w fun e w' => e = .returned (.tuple #[.agg #[.bool p0, .bool p1, .bool p2, .bool p3, .int .i64 p4, .float .f64 p5, .string p6, .pointer p7, .pointer p8, .pointer p9], .bool true]) ∧ Kx [] w w' := by
  obtain ⟨W0, hW0⟩ : ∃ W0, W0 = (w.alloc (Obj.cells #[.string nm, .int .u32 n, .bool false] 67)).alloc (Obj.cells #[.bool false, .bool false, .bool false, .bool false, .int .i64 0, .float .f64 0, .string ⟨#[]⟩, .pointer none, .pointer none, .pointer none] 75) := ⟨_, rfl⟩
  have h5' : W0.cell? ⟨b, 5, none⟩ = some (.pointer (some ⟨S, 0, none⟩)) := by
    have e : (w.alloc (Obj.cells #[.string nm, .int .u32 n, .bool false] 67)).cell? ⟨b, 5, none⟩ = some (.pointer (some ⟨S, 0, none⟩)) := by rw [World.cell?_alloc_some _ _ _ (by rw [h5]; rfl)]; exact h5
    rw [hW0, World.cell?_alloc_some _ _ _ (by rw [e]; rfl)]; exact e
  have hold : ∀ (x : Addr) (v : Value), w.cell? x = some v → W0.cell? x = some v := fun x v h => by
    have e : (w.alloc (Obj.cells #[.string nm, .int .u32 n, .bool false] 67)).cell? x = some v := by rw [World.cell?_alloc_some _ _ _ (by rw [h]; rfl)]; exact h
    rw [hW0, World.cell?_alloc_some _ _ _ (by rw [e]; rfl)]; exact e
  have h6' := hold _ _ h6
  have e0' := hold _ _ e0
  have e1' := hold _ _ e1
  have e2' := hold _ _ e2
  have e3' := hold _ _ e3
  have e4' := hold _ _ e4
  have e5' := hold _ _ e5
  have e6' := hold _ _ e6
  have e7' := hold _ _ e7
  have e8' := hold _ _ e8
  have e9' := hold _ _ e9
  have k2 : W0.cell? ⟨w.heap.size, 2, none⟩ = some (.bool false) := by
    have h := heap_old (heap_alloc_new w (Obj.cells #[.string nm, .int .u32 n, .bool false] 67)) (Obj.cells #[.bool false, .bool false, .bool false, .bool false, .int .i64 0, .float .f64 0, .string ⟨#[]⟩, .pointer none, .pointer none, .pointer none] 75)
    rw [← hW0] at h
    simp [World.cell?, h]
  have k0 : W0.cell? ⟨w.heap.size, 0, none⟩ = some (.string nm) := by
    have h := heap_old (heap_alloc_new w (Obj.cells #[.string nm, .int .u32 n, .bool false] 67)) (Obj.cells #[.bool false, .bool false, .bool false, .bool false, .int .i64 0, .float .f64 0, .string ⟨#[]⟩, .pointer none, .pointer none, .pointer none] 75)
    rw [← hW0] at h
    simp [World.cell?, h]
  have hk : Kx [] w W0 := by rw [hW0]; exact (show Kx [] w _ from (Kx.alloc _ _ _).alc _)
  have hR : W0.heap[w.heap.size + 1]? = some (Obj.cells #[.bool false, .bool false, .bool false, .bool false, .int .i64 0, .float .f64 0, .string ⟨#[]⟩, .pointer none, .pointer none, .pointer none] 75 (0, 0)) := by rw [hW0]; exact heap_alloc2_new _ _ _
  have HR := (show Hid _ from hR)
  have HK := (show Hid _ from hk)
  have CF := (show Hid _ from cf)
  unfold noP at *
  rw [hW0] at k0 k2 h5'
  have HE := (show Hid _ from And.intro h6' (And.intro e0' (And.intro e1' (And.intro e2' (And.intro e3' (And.intro e4' (And.intro e5' (And.intro e6' (And.intro e7' (And.intro e8' e9'))))))))))
  clear h5 hR hk cf hold h6 e0 e1 e2 e3 e4 e5 e6 e7 e8 e9 h6' e0' e1' e2' e3' e4' e5' e6' e7' e8' e9'
  go_enter Tryz.func25, Tryz.ntmps25
  go_wp2
  rw [← hW0] at k0 k2 h5' ⊢
  clear hW0
  go_quiet (first | (go_at_call 51; exact Calls.quiet_of (CF.out _ (HK.out.drw _))))
  have hR : (W0.drewN nq).heap[w.heap.size + 1]? = some (Obj.cells #[.bool false, .bool false, .bool false, .bool false, .int .i64 0, .float .f64 0, .string ⟨#[]⟩, .pointer none, .pointer none, .pointer none] 75 (0, 0)) := HR.out
  have HK1 : Hid (Kx [] w (W0.drewN nq)) := (show Kx [] w (W0.drewN nq) from HK.out.drw nq)
  have HE1 : Hid ((W0.drewN nq).cell? ⟨b, 6, none⟩ = some (.slice (some ⟨g, 0, none⟩) m cap) ∧ (W0.drewN nq).cell? ⟨g, i * 10, none⟩ = some (.bool p0) ∧ (W0.drewN nq).cell? ⟨g, i * 10 + 1, none⟩ = some (.bool p1) ∧ (W0.drewN nq).cell? ⟨g, i * 10 + 2, none⟩ = some (.bool p2) ∧ (W0.drewN nq).cell? ⟨g, i * 10 + 3, none⟩ = some (.bool p3) ∧ (W0.drewN nq).cell? ⟨g, i * 10 + 4, none⟩ = some (.int .i64 p4) ∧ (W0.drewN nq).cell? ⟨g, i * 10 + 5, none⟩ = some (.float .f64 p5) ∧ (W0.drewN nq).cell? ⟨g, i * 10 + 6, none⟩ = some (.string p6) ∧ (W0.drewN nq).cell? ⟨g, i * 10 + 7, none⟩ = some (.pointer p7) ∧ (W0.drewN nq).cell? ⟨g, i * 10 + 8, none⟩ = some (.pointer p8) ∧ (W0.drewN nq).cell? ⟨g, i * 10 + 9, none⟩ = some (.pointer p9)) := HE
  clear HR HK CF k0 k2 h5' HE
  obtain ⟨w1, hw1⟩ : ∃ w1, w1 = W0.drewN nq := ⟨_, rfl⟩
  rw [← hw1] at hR HK1 HE1 ⊢
  clear hw1
  have cR0 : w1.cell? ⟨w.heap.size + 1, 0, none⟩ = some (.bool false) := by simp [World.cell?, hR]
  have fR0 : w1.frozen? ⟨w.heap.size + 1, 0, none⟩ = false := by simp [World.frozen?, hR]
  have cR1 : w1.cell? ⟨w.heap.size + 1, 1, none⟩ = some (.bool false) := by simp [World.cell?, hR]
  have fR1 : w1.frozen? ⟨w.heap.size + 1, 1, none⟩ = false := by simp [World.frozen?, hR]
  have cR2 : w1.cell? ⟨w.heap.size + 1, 2, none⟩ = some (.bool false) := by simp [World.cell?, hR]
  have fR2 : w1.frozen? ⟨w.heap.size + 1, 2, none⟩ = false := by simp [World.frozen?, hR]
  have cR3 : w1.cell? ⟨w.heap.size + 1, 3, none⟩ = some (.bool false) := by simp [World.cell?, hR]
  have fR3 : w1.frozen? ⟨w.heap.size + 1, 3, none⟩ = false := by simp [World.frozen?, hR]
  have cR4 : w1.cell? ⟨w.heap.size + 1, 4, none⟩ = some (.int .i64 0) := by simp [World.cell?, hR]
  have fR4 : w1.frozen? ⟨w.heap.size + 1, 4, none⟩ = false := by simp [World.frozen?, hR]
  have cR5 : w1.cell? ⟨w.heap.size + 1, 5, none⟩ = some (.float .f64 0) := by simp [World.cell?, hR]
  have fR5 : w1.frozen? ⟨w.heap.size + 1, 5, none⟩ = false := by simp [World.frozen?, hR]
  have cR6 : w1.cell? ⟨w.heap.size + 1, 6, none⟩ = some (.string ⟨#[]⟩) := by simp [World.cell?, hR]
  have fR6 : w1.frozen? ⟨w.heap.size + 1, 6, none⟩ = false := by simp [World.frozen?, hR]
  have cR7 : w1.cell? ⟨w.heap.size + 1, 7, none⟩ = some (.pointer none) := by simp [World.cell?, hR]
  have fR7 : w1.frozen? ⟨w.heap.size + 1, 7, none⟩ = false := by simp [World.frozen?, hR]
  have cR8 : w1.cell? ⟨w.heap.size + 1, 8, none⟩ = some (.pointer none) := by simp [World.cell?, hR]
  have fR8 : w1.frozen? ⟨w.heap.size + 1, 8, none⟩ = false := by simp [World.frozen?, hR]
  have cR9 : w1.cell? ⟨w.heap.size + 1, 9, none⟩ = some (.pointer none) := by simp [World.cell?, hR]
  have fR9 : w1.frozen? ⟨w.heap.size + 1, 9, none⟩ = false := by simp [World.frozen?, hR]
  obtain ⟨h6, e0, e1, e2, e3, e4, e5, e6, e7, e8, e9⟩ := HE1.out
  clear HE1
  have HR := (show Hid _ from hR)
  clear hR
  go_wp2
  have r1 := heap_set_at (C' := #[.bool p0, .bool false, .bool false, .bool false, .int .i64 0, .float .f64 0, .string ⟨#[]⟩, .pointer none, .pointer none, .pointer none]) HR.out 0 (.bool p0) rfl
  have r2 := heap_set_at (C' := #[.bool p0, .bool p1, .bool false, .bool false, .int .i64 0, .float .f64 0, .string ⟨#[]⟩, .pointer none, .pointer none, .pointer none]) r1 1 (.bool p1) rfl
  have r3 := heap_set_at (C' := #[.bool p0, .bool p1, .bool p2, .bool false, .int .i64 0, .float .f64 0, .string ⟨#[]⟩, .pointer none, .pointer none, .pointer none]) r2 2 (.bool p2) rfl
  have r4 := heap_set_at (C' := #[.bool p0, .bool p1, .bool p2, .bool p3, .int .i64 0, .float .f64 0, .string ⟨#[]⟩, .pointer none, .pointer none, .pointer none]) r3 3 (.bool p3) rfl
  have r5 := heap_set_at (C' := #[.bool p0, .bool p1, .bool p2, .bool p3, .int .i64 p4, .float .f64 0, .string ⟨#[]⟩, .pointer none, .pointer none, .pointer none]) r4 4 (.int .i64 p4) rfl
  have r6 := heap_set_at (C' := #[.bool p0, .bool p1, .bool p2, .bool p3, .int .i64 p4, .float .f64 p5, .string ⟨#[]⟩, .pointer none, .pointer none, .pointer none]) r5 5 (.float .f64 p5) rfl
  have r7 := heap_set_at (C' := #[.bool p0, .bool p1, .bool p2, .bool p3, .int .i64 p4, .float .f64 p5, .string p6, .pointer none, .pointer none, .pointer none]) r6 6 (.string p6) rfl
  have r8 := heap_set_at (C' := #[.bool p0, .bool p1, .bool p2, .bool p3, .int .i64 p4, .float .f64 p5, .string p6, .pointer p7, .pointer none, .pointer none]) r7 7 (.pointer p7) rfl
  have r9 := heap_set_at (C' := #[.bool p0, .bool p1, .bool p2, .bool p3, .int .i64 p4, .float .f64 p5, .string p6, .pointer p7, .pointer p8, .pointer none]) r8 8 (.pointer p8) rfl
  have r10 := heap_set_at (C' := #[.bool p0, .bool p1, .bool p2, .bool p3, .int .i64 p4, .float .f64 p5, .string p6, .pointer p7, .pointer p8, .pointer p9]) r9 9 (.pointer p9) rfl
  clear r1 r2 r3 r4 r5 r6 r7 r8 r9
  refine bodyPost_ret (results_row_tmp rfl _ _ (w.heap.size + 1) 75 _ (0, 0) _ rfl r10 Tryz.underlying75 rfl (by kernel_rfl) _ rfl) rfl ?_
  exact ⟨rfl, HK1.out.trans (((((((((((Kx.refl [w.heap.size + 1] w1).set (by simp) _).set (by simp) _).set (by simp) _).set (by simp) _).set (by simp) _).set (by simp) _).set (by simp) _).set (by simp) _).set (by simp) _).set (by simp) _) (fun i hi => .inr (by simp at hi; omega))⟩
end Go.Proofs.YtmicdbplkfdfnaaGreatDoor
set_option linter.unusedVariables false
namespace Go.Proofs.YtmicdbplkfdfnaaGreatDoor
open Go.RowKit Go.Shelf Go.Maps

theorem FSt.find {w : World} {n0 O H b : Nat} {arr fx : Bool} {L : List ByteArray} {P : List Pr} {f : Nat → Option Pr} {F : Fp} (h : FSt w n0 O H b arr fx L P f F) (nm : ByteArray) (hnm : nm.size ≤ maxLen) (o : Option Nat) (ho : pf L nm = o) :
    ∀ W, Kx [] w W → Calls Tryz.prog 51 #[.pointer (some ⟨F.S, 0, none⟩), .string nm] W fun e w' => e = .returned (.tuple #[.int .i64 ((o.getD 0 : Nat) : Int), .bool o.isSome]) ∧ ∃ q, w' = W.drewN q := by
  intro W hW
  have hs := hW.get h.shp (by simp)
  have hn := hW.get h.nms.1 (by simp)
  have c := find_any F.S F.N F.M F.q L.length (pf L) nm hnm W (cell_at hs 0 rfl) (cell_at hs 1 rfl) (cell_at hn 1 rfl) (hW.imap h.nms.2.2 (by simp))
  rw [ho] at c
  refine c.mono fun e w' ⟨h1, h2⟩ => ⟨?_, h2⟩
  rw [h1]
  cases o with
  | none => rfl
  | some i =>
    have hi := (List.getElem?_eq_some_iff.1 ((pf_get _ L rfl h.nd nm i).1 ho)).1
    simp [hi]
/-- What the object has at a key. -/
def look (L : List ByteArray) (P : List Pr) (f : Nat → Option Pr) (us : List Nat) : Option Pr := if ixOf us < 0 then (pf L (txt us)).bind (fun i => P[i]?) else f (ixOf us).toNat
theorem look_name {L : List ByteArray} {P : List Pr} {f : Nat → Option Pr} {us : List Nat} (h : ixOf us < 0) : look L P f us = (pf L (txt us)).bind (fun i => P[i]?) := if_pos h
theorem look_place {L : List ByteArray} {P : List Pr} {f : Nat → Option Pr} {us : List Nat} {k : Nat} (h : ixOf us = (k : Int)) : look L P f us = f k := by
  unfold look
  rw [if_neg (by omega), h]
  rfl
theorem keyN_name {us : List Nat} (h : ixOf us < 0) : keyN us = txt us ∧ keyP us = 0 ∧ keyI us = false := by
  unfold keyN keyP keyI
  rw [if_pos h, if_pos h, decide_eq_true h]
  exact ⟨rfl, rfl, rfl⟩
theorem keyN_place {us : List Nat} {k : Nat} (h : ixOf us = (k : Int)) : keyN us = ⟨#[]⟩ ∧ keyP us = (k : Int) ∧ keyI us = true := by
  unfold keyN keyP keyI
  have h' : ¬ ixOf us < 0 := by omega
  rw [if_neg h', if_neg h', decide_eq_false h', h]
  exact ⟨rfl, rfl, rfl⟩
theorem FSt.own {w : World} {n0 O H b : Nat} {arr fx : Bool} {L : List ByteArray} {P : List Pr} {f : Nat → Option Pr} {F : Fp} (h : FSt w n0 O H b arr fx L P f F) (us : List Nat) (hsz : (txt us).size ≤ maxLen) :
    ∀ W, Kx [] w W → Calls Tryz.prog 25 #[.pointer (some ⟨b, 0, none⟩), .agg #[.string (keyN us), .int .u32 (keyP us), .bool (keyI us)]] W fun e w' => e = .returned (.tuple #[prO (look L P f us), .bool (look L P f us).isSome]) ∧ Kx [] W w' := by
  intro W hW
  have hb := hW.get h.obj (by simp)
  by_cases hx : ixOf us < 0
  · obtain ⟨k1, k2, k3⟩ := keyN_name hx
    rw [k1, k2, k3, look_name hx]
    cases hp : pf L (txt us) with
    | none =>
      exact own_no b F.S (txt us) 0 0 W (cell_at hb 5 rfl) (fun W2 hW2 => h.find (txt us) hsz none hp W2 (hW.same hW2))
    | some i =>
      have hi := (List.getElem?_eq_some_iff.1 ((pf_get _ L rfl h.nd _ i).1 hp)).1
      obtain ⟨p, hpi⟩ : ∃ p, P[i]? = some p := ⟨_, List.getElem?_eq_getElem (by rw [h.len]; exact hi)⟩
      have hprs := hW.owns h.prs (fun g hg => by simp)
      obtain ⟨g, cap, e⟩ := ownsRow_pos (by rw [h.len]; omega) hprs
      rw [e] at hprs
      have hl := h.len
      have hbl := h.bL
      have c := own_yes b F.S i P.length cap g (by omega) (by omega) p.1 p.2.1 p.2.2.1 false 3 p.2.2.2 ⟨#[]⟩ none none none (txt us) 0 W (by rw [cell_at hb 6 rfl]; exact congrArg some e)
        (prs_cells hprs hpi 0 (by omega) _ rfl) (prs_cells hprs hpi 1 (by omega) _ rfl) (prs_cells hprs hpi 2 (by omega) _ rfl) (prs_cells hprs hpi 3 (by omega) _ rfl) (prs_cells hprs hpi 4 (by omega) _ rfl)
        (prs_cells hprs hpi 5 (by omega) _ rfl) (prs_cells hprs hpi 6 (by omega) _ rfl) (prs_cells hprs hpi 7 (by omega) _ rfl) (prs_cells hprs hpi 8 (by omega) _ rfl) (prs_cells hprs hpi 9 (by omega) _ rfl)
        (cell_at hb 5 rfl) (fun W2 hW2 => h.find (txt us) hsz (some i) hp W2 (hW.same hW2))
      simp only [Option.bind_some, hpi]
      exact c
  · obtain ⟨k, hk, hkb⟩ := ixOf_range us hx
    obtain ⟨k1, k2, k3⟩ := keyN_place hk
    rw [k1, k2, k3, look_place hk]
    exact own_at b none 0 ⟨#[]⟩ (k : Int) (by omega) (by omega) F.st (f k) W (cell_at hb 3 rfl) (cell_at hb 7 rfl) (cell_at hb 8 rfl) ((h.str.looks k (by omega)).mono hW)
end Go.Proofs.YtmicdbplkfdfnaaGreatDoor
set_option linter.unusedVariables false
namespace Go.Proofs.YtmicdbplkfdfnaaGreatDoor
open Go.RowKit Go.Shelf Go.Maps

/-- From one state to the next. -/
def Nxt (w : World) (O H b : Nat) (F : Fp) (w' : World) (F' : Fp) : Prop := Kx (F.blocks O H b) w w' ∧ (∀ i ∈ F'.blocks O H b, i ∈ F.blocks O H b ∨ w.heap.size ≤ i) ∧ F'.m ≤ F.m + 1 ∧ F'.q ≤ F.q + 1
theorem Nxt.same {w : World} {O H b : Nat} {F : Fp} {w' : World} (h : Kx (F.blocks O H b) w w') : Nxt w O H b F w' F := ⟨h, fun i hi => .inl hi, by omega, by omega⟩
theorem prs_cur {w : World} {base g n cap : Nat} {P : List Pr} (h : w.ownsRow base 75 10 (.slice (some ⟨g, 0, none⟩) n cap) n (prsL P)) {i : Nat} {p : Pr} (hp : P[i]? = some p) (hi : i < n) :
    ∃ cur, w.heap[g]? = some (.cells cur 75 (0, 0)) ∧ i * 10 + 10 ≤ cur.size ∧ ∀ t, t < 10 → cur[i * 10 + t]? = (prL p)[t]? := by
  rcases h.2 with ⟨e, _⟩ | ⟨g2, cap2, cur, e, h1, h2, h3, h4, h5, h6⟩
  · cases e
  · simp only [Value.slice.injEq, Option.some.injEq, Addr.mk.injEq] at e
    obtain ⟨⟨rfl, -, -⟩, -, rfl⟩ := e
    refine ⟨cur, h2, by rw [h5]; have := Nat.mul_le_mul_right 10 h3; omega, fun t ht => ?_⟩
    have e1 := flat_get prL 10 prL_len P i p t hp ht
    rw [← e1, show P.flatMap prL = prsL P from rfl, ← h6, List.getElem?_take, if_pos (by omega), Array.getElem?_toList]
theorem FSt.setSame {w : World} {n0 O H b : Nat} {arr fx : Bool} {L : List ByteArray} {P : List Pr} {f : Nat → Option Pr} {F : Fp} (h : FSt w n0 O H b arr fx L P f F) (nm : ByteArray) (hnm : nm.size ≤ maxLen) (i : Nat) (hi : pf L nm = some i) (p0 p1 p2 : Bool) (x0 x : Nat) (hp : P[i]? = some (p0, p1, p2, x0)) :
    ∀ W, Kx [] w W → Calls Tryz.prog 59 #[.pointer (some ⟨b, 0, none⟩), .agg #[.string nm, .int .u32 0, .bool false], .agg #[.bool p0, .bool p1, .bool p2, .bool false, .int .i64 3, .float .f64 x, .string ⟨#[]⟩, .pointer none, .pointer none, .pointer none]] W fun e w' => (∃ u, e = .returned u) ∧ Kx (F.blocks O H b) W w' ∧ (FSt w' n0 O H b arr fx L (P.set i (p0, p1, p2, x)) f F ∧ Nxt w O H b F w' F) := by
  intro W hW
  have hs := h.kept0 hW
  have hil := (List.getElem?_eq_some_iff.1 ((pf_get _ L rfl h.nd _ i).1 hi)).1
  have hl := h.len
  have hbl := h.bL
  obtain ⟨g, cap, e⟩ := ownsRow_pos (by omega) hs.prs
  have hprs := hs.prs
  have hob := hs.obj
  have hne := hs.ne
  rw [e] at hprs hob hne
  obtain ⟨cur, hG, hcs, ht⟩ := prs_cur hprs hp (by omega)
  have c := set_same b F.S g i P.length cap nm 0 p0 p1 p2 x _ _ _ _ _ _ _ _ cur W hob hG (by omega) (by omega) hcs (ht 0 (by omega)) (ht 1 (by omega)) (ht 2 (by omega)) (ht 3 (by omega))
    (fun W2 hW2 => h.find nm hnm (some i) hi W2 (hW.same hW2))
  refine c.mono fun e2 w' h2 => ?_
  obtain ⟨hu, cur', hG', hsz, hls, hk⟩ := h2
  have hgF : g ∈ F.blocks O H b := by simp [Fp.blocks, e, Value.ownBlock]
  have hkF : Kx (F.blocks O H b) W w' := hk.mono (fun j hj => .inl (by rw [List.mem_singleton.1 hj]; exact hgF))
  obtain ⟨n1, n2, n3, n4, n5, n6, n7, n8, n9⟩ := hne.1 g rfl
  have hkw : Kx (F.blocks O H b) w w' := (hW.mono (fun j hj => by cases hj)).trans hkF (fun j hj => .inl hj)
  refine ⟨hu, hkF, ?_, Nxt.same hkw⟩
  have hn : ∀ x, x ≠ g → x ∉ [g] := fun x hx hm => hx (List.mem_singleton.1 hm)
  exact { hs with
    face := hk.get hs.face (hn _ n1.symm)
    heap := hk.get hs.heap (hn _ n2.symm)
    row := hk.owns hs.row (fun y hy => hn _ (n7 y hy).symm)
    obj := hk.get hs.obj (hn _ n3.symm)
    shp := hk.get hs.shp (hn _ n4.symm)
    nms := hs.nms.kept hk (hn _ n5.symm) (hn _ n6.symm) (fun y hy => hn _ (n8 y hy).symm)
    prs := by
      have := prs_stored (p := (p0, p1, p2, x)) rfl hprs hG (by omega) hG' hsz hls
      rw [e, List.length_set]
      exact this
    str := hk.stAt hs.str (fun y hy => hn _ (by
      rcases hs.str with ⟨e3, _⟩ | ⟨X, e3, _⟩
      · rw [e3] at hy; simp [stB] at hy
      · rw [e3] at hy
        simp [stB] at hy
        subst hy
        exact (n9 _ e3).symm))
    len := by rw [List.length_set]; exact hs.len
    n0w := Nat.le_trans hs.n0w hk.size }
end Go.Proofs.YtmicdbplkfdfnaaGreatDoor
set_option linter.unusedVariables false
namespace Go.Proofs.YtmicdbplkfdfnaaGreatDoor
open Go.RowKit Go.Shelf Go.Maps

/-- A place, set. -/
def upd (f : Nat → Option Pr) (k : Nat) (p : Pr) : Nat → Option Pr := fun t => if t = k then some p else f t
theorem FSt.setPlace {w : World} {n0 O H b : Nat} {arr fx : Bool} {L : List ByteArray} {P : List Pr} {f : Nat → Option Pr} {F : Fp} (h : FSt w n0 O H b arr fx L P f F) (k : Nat) (hk : k < 4294967296) (p1 p2 : Bool) (x : Nat) (hm : F.m + 1 ≤ 10000) :
    ∀ W, Kx [] w W → Calls Tryz.prog 59 #[.pointer (some ⟨b, 0, none⟩), .agg #[.string ⟨#[]⟩, .int .u32 (k : Int), .bool true], .agg #[.bool false, .bool p1, .bool p2, .bool false, .int .i64 3, .float .f64 x, .string ⟨#[]⟩, .pointer none, .pointer none, .pointer none]] W fun e w' => (∃ u, e = .returned u) ∧ Kx (F.blocks O H b) W w' ∧ ∃ F', FSt w' n0 O H b arr fx L P (upd f k (false, p1, p2, x)) F' ∧ Nxt w O H b F w' F' ∧ F'.al = F.al ∧ F'.nv = F.nv := by
  intro W hW
  have hs := h.kept0 hW
  refine set_place b k ⟨#[]⟩ false p1 p2 x (fun w' => Kx (F.blocks O H b) W w' ∧ ∃ F', FSt w' n0 O H b arr fx L P (upd f k (false, p1, p2, x)) F' ∧ Nxt w O H b F w' F' ∧ F'.al = F.al ∧ F'.nv = F.nv) W ?_
  intro W2 hW2
  have hs2 := hs.kept0 hW2
  refine (setPlace_any b F.m k hk p1 p2 x none 0 _ _ _ _ _ _ _ F.st _ f W2 hs2.obj hs2.str (by have := hs2.bm; omega)).mono fun e w' h2 => ?_
  obtain ⟨hu, M', hB', hM', hor, hkx⟩ := h2
  have hkF : Kx (F.blocks O H b) W2 w' := hkx.mono (fun j hj => .inl (by
    simp only [List.mem_cons] at hj
    rcases hj with rfl | hj
    · simp [Fp.blocks]
    · simp [Fp.blocks, hj]))
  obtain ⟨n0', n1, n2, n3, n4, n5, n6, n7, n8, n9⟩ := hs2.ne
  have hnot : ∀ x, x ≠ b → (∀ X, F.st = .map (some X) → x ≠ X) → x ∉ b :: stB F.st := by
    intro x hx hX hmem
    simp only [List.mem_cons] at hmem
    rcases hmem with h1 | h1
    · exact hx h1
    · rcases hs2.str with ⟨e3, _⟩ | ⟨X, e3, _⟩
      · rw [e3] at h1; simp [stB] at h1
      · rw [e3] at h1
        simp [stB] at h1
        exact hX X e3 h1
  have hWw : Kx [] w W2 := hW.same hW2
  have hkw : Kx (F.blocks O H b) w w' := (hWw.mono (fun j hj => by cases hj)).trans hkF (fun j hj => .inl hj)
  refine ⟨hu, (hW2.mono (fun j hj => by cases hj)).trans hkF (fun j hj => .inl hj), { F with st := .map (some M'), m := F.m + 1 }, ?_, ⟨hkw, ?_, by simp, by simp⟩, rfl, rfl⟩
  · exact { hs2 with
      face := hkx.get hs2.face (hnot _ n1.symm (fun X e => (n9 X e).1.symm))
      heap := hkx.get hs2.heap (hnot _ n2.symm (fun X e => (n9 X e).2.1.symm))
      row := hkx.owns hs2.row (fun y hy => hnot _ (n6 y hy).symm (fun X e => ((n9 X e).2.2.2.2.2.1 y hy).symm))
      obj := hB'
      shp := hkx.get hs2.shp (hnot _ n3.symm (fun X e => (n9 X e).2.2.1.symm))
      nms := hs2.nms.kept hkx (hnot _ n4.symm (fun X e => (n9 X e).2.2.2.1.symm)) (hnot _ n5.symm (fun X e => (n9 X e).2.2.2.2.1.symm)) (fun y hy => hnot _ (n7 y hy).symm (fun X e => ((n9 X e).2.2.2.2.2.2 y hy).symm))
      prs := hkx.owns hs2.prs (fun y hy => hnot _ (n0' y hy).2.2.1 (fun X e => (n0' y hy).2.2.2.2.2.2.2.2 X e))
      str := .inr ⟨M', rfl, hM'⟩
      full := fun _ => ⟨k, by simp [upd]⟩
      sep := by
        intro X hX
        have hX' : M' = X := by simpa using hX
        subst hX'
        rcases hor with h1 | h1
        · exact hs2.sep _ h1
        · exact ⟨fun e => by have := hs2.nms.2.2.lt; rw [← e] at this; omega, Nat.le_trans hs2.n0w h1⟩
      bm := by simp; omega
      n0w := Nat.le_trans hs2.n0w hkx.size }
  · intro i hi
    simp only [Fp.blocks, List.mem_cons, List.mem_append] at hi ⊢
    rcases hi with h1 | h1 | h1 | h1 | h1 | h1 | ((h1 | h1) | h1) | h1
    · simp [h1]
    · simp [h1]
    · simp [h1]
    · simp [h1]
    · simp [h1]
    · simp [h1]
    · simp [h1]
    · simp [h1]
    · simp [h1]
    · have h1' : i = M' := by simpa [stB] using h1
      subst h1'
      rcases hor with h2 | h2
      · rw [h2]; simp [stB]
      · exact .inr (Nat.le_trans hWw.size h2)
end Go.Proofs.YtmicdbplkfdfnaaGreatDoor
set_option linter.unusedVariables false
namespace Go.Proofs.YtmicdbplkfdfnaaGreatDoor
open Go.RowKit Go.Shelf Go.Maps

theorem row_cells {w : World} {n0 : Nat} {e : TypeId} {sz : Nat} {v : Value} {n : Nat} {xs : List Value} (ho : w.ownsRow n0 e sz v n xs) (g : Nat) (hg : v.ownBlock = some g) : ∃ cur, w.heap[g]? = some (.cells cur e (0, 0)) := by
  rcases ho.2 with ⟨e1, _⟩ | ⟨g2, cap, cur, e1, _, hq, _⟩
  · rw [e1] at hg; cases hg
  · rw [e1] at hg
    have : g2 = g := by simpa [Value.ownBlock] using hg
    exact ⟨cur, this ▸ hq⟩
theorem name_comes (b S N M q n0 : Nat) (cl pr fx inn num rw st kp nv v k fr : Value) (L : List ByteArray) (P : List Pr) (nm : ByteArray) (p : Pr) (w : World)
    (hB : w.heap[b]? = some (.cells #[cl, pr, fx, inn, num, .pointer (some ⟨S, 0, none⟩), nv, rw, st, kp] 111 (0, 0)))
    (hS : w.heap[S]? = some (.cells #[.pointer (some ⟨N, 0, none⟩), .int .i64 (L.length : Int), fr, .map none, .bool false, .bool false] 118 (0, 0)))
    (hN : NamesAt w n0 N M q v k L) (hP : w.ownsRow n0 75 10 nv P.length (prsL P)) (hL : L.length ≤ 200) (hP2 : P.length ≤ 200) (hq : q ≤ 300) (hnm : nm.size ≤ maxLen) (hn0 : n0 ≤ w.heap.size)
    (cf : ∀ W, Kx [] w W → Calls Tryz.prog 51 #[.pointer (some ⟨S, 0, none⟩), .string nm] W fun e w' => e = .returned (.tuple #[.int .i64 0, .bool false]) ∧ ∃ q, w' = W.drewN q) :
    Calls Tryz.prog 59 #[.pointer (some ⟨b, 0, none⟩), .agg #[.string nm, .int .u32 0, .bool false], .agg #[.bool p.1, .bool p.2.1, .bool p.2.2.1, .bool false, .int .i64 3, .float .f64 p.2.2.2, .string ⟨#[]⟩, .pointer none, .pointer none, .pointer none]] w fun e w' => (∃ u, e = .returned u) ∧ ∃ S' v' nv', w.heap.size ≤ S' ∧ w'.heap[b]? = some (.cells #[cl, pr, fx, inn, num, .pointer (some ⟨S', 0, none⟩), nv', rw, st, kp] 111 (0, 0)) ∧
      w'.heap[S']? = some (.cells #[.pointer (some ⟨N, 0, none⟩), .int .i64 ((L.length : Int) + 1), .pointer (some ⟨S, 0, none⟩), .map none, .bool false, .bool false] 118 (0, 0)) ∧ NamesAt w' n0 N M (q + 1) v' k (L ++ [nm]) ∧ w'.ownsRow n0 75 10 nv' (P.length + 1) (prsL (P ++ [p])) ∧
      (∀ g, v'.ownBlock = some g → v.ownBlock = some g ∨ w.heap.size ≤ g) ∧ (∀ g, nv'.ownBlock = some g → nv.ownBlock = some g ∨ w.heap.size ≤ g) ∧ Kx (b :: S :: N :: M :: (v.ownBlock.toList ++ nv.ownBlock.toList)) w w' := by
  have bS := cells_ne hB hS (by decide)
  have bN := cells_ne hB hN.1 (by decide)
  have bM := imap_cells hN.2.2 hB
  have bv : ∀ g, v.ownBlock = some g → g ≠ b := fun g hg => by
    obtain ⟨c, hc⟩ := row_cells hN.2.1 g hg
    exact cells_ne hc hB (by decide)
  have nvx : ∀ g, nv.ownBlock = some g → g ≠ S ∧ g ≠ N ∧ g ≠ M ∧ ∀ y, v.ownBlock = some y → g ≠ y := fun g hg => by
    obtain ⟨c, hc⟩ := row_cells hP g hg
    refine ⟨cells_ne hc hS (by decide), cells_ne hc hN.1 (by decide), imap_cells hN.2.2 hc, fun y hy => ?_⟩
    obtain ⟨c2, hc2⟩ := row_cells hN.2.1 y hy
    exact cells_ne hc hc2 (by decide)
  have hlS := lt_get hS
  have hlN := lt_get hN.1
  have hlM := hN.2.2.lt
  have hTl : ∀ i ∈ S :: N :: M :: v.ownBlock.toList, i < w.heap.size := by
    intro i hi
    simp only [List.mem_cons] at hi
    rcases hi with rfl | rfl | rfl | hi
    · exact hlS
    · exact hlN
    · exact hlM
    · exact (hN.2.1.lt i (by simpa using hi)).2
  let Q : Nat → World → Prop := fun S' w2 => w.heap.size ≤ S' ∧ ∃ v', w2.heap[S']? = some (.cells #[.pointer (some ⟨N, 0, none⟩), .int .i64 ((L.length : Int) + 1), .pointer (some ⟨S, 0, none⟩), .map none, .bool false, .bool false] 118 (0, 0)) ∧ NamesAt w2 n0 N M (q + 1) v' k (L ++ [nm]) ∧ (∀ g, v'.ownBlock = some g → v.ownBlock = some g ∨ w.heap.size ≤ g)
  have ca : ∀ W, Kx [] w W → Calls Tryz.prog 85 #[.pointer (some ⟨S, 0, none⟩), .agg #[.string nm, .bool p.1, .bool p.2.1, .bool p.2.2.1, .bool false]] W fun e w' => ∃ S', e = .returned (.pointer (some ⟨S', 0, none⟩)) ∧ Kx (S :: N :: M :: v.ownBlock.toList) W w' ∧ Q S' w' := by
    intro W hW
    have hS1 := hW.get hS (by simp)
    refine (after_miss S _ fr _ (.map none) false (nm, p.1, p.2.1, p.2.2.1, false) W (fun S' w1 => Kx (S :: N :: M :: v.ownBlock.toList) W w1 ∧ Q S' w1) hS1 hnm (fun W2 hW2 => pmap_look_nil _ W2) ?_).mono ?_
    · intro W2 hW2 hP2
      have hW02 := hW.same hW2
      refine (grow_nil S N M q n0 L.length v k fr (.map none) false false L (nm, p.1, p.2.1, p.2.2.1, false) W2 (hW02.get hS (by simp)) (hN.kept hW02 (by simp) (by simp) (fun g hg => by simp)) rfl (by omega) (by omega) hnm (Nat.le_trans hn0 hW02.size) rfl).mono ?_
      rintro e w' ⟨hu, S', X, v', g1, g2, g3, g4, g5, g6, g7, g8⟩
      refine ⟨hu, S', X, 1, _, _, _, _, _, _, g3, ?_, g5, by simp, ?_, ?_⟩
      · refine g8.get hP2 ?_
        intro hm
        have := hTl _ hm
        have := hW.size
        omega
      · exact (hW2.mono (fun i hi => by cases hi)).trans g8 (fun i hi => .inl hi)
      · exact ⟨Nat.le_trans hW02.size g1, v', g4, g6, fun g hg => (g7 g hg).imp id (fun h => Nat.le_trans hW02.size h)⟩
    · rintro e w' ⟨S', w1, qq, rfl, ⟨hk1, hq1⟩, rfl⟩
      exact ⟨S', rfl, hk1.drw _, hq1⟩
  have c := set_new b S n0 P.length nm 0 0 p.1 p.2.1 p.2.2.1 false 3 p.2.2.2 ⟨#[]⟩ none none none cl pr fx inn num nv rw st kp (prsL P) (S :: N :: M :: v.ownBlock.toList) Q w hB hP (by omega) hn0 hTl
    (fun hm => by
      simp only [List.mem_cons] at hm
      rcases hm with h | h | h | h
      · exact bS h
      · exact bN h
      · exact bM h
      · exact bv b (by simpa using h) rfl)
    (fun g hg hm => by
      obtain ⟨x1, x2, x3, x4⟩ := nvx g hg
      simp only [List.mem_cons] at hm
      rcases hm with h | h | h | h
      · exact x1 h
      · exact x2 h
      · exact x3 h
      · exact x4 g (by simpa using h) rfl) cf ca
  refine c.mono ?_
  rintro e w' ⟨hu, S', w2, nv', k1, ⟨hS', v', q1, q2, q3⟩, hB', hR', hfr, k2⟩
  have hsz := k1.size
  have hnot : ∀ x, x < w2.heap.size → x ≠ b → (∀ g, nv.ownBlock = some g → x ≠ g) → x ∉ b :: nv.ownBlock.toList := by
    intro x _ h1 h2 hm
    simp only [List.mem_cons] at hm
    rcases hm with h | h
    · exact h1 h
    · exact h2 x (by simpa using h) rfl
  have hltb := lt_get hB
  refine ⟨hu, S', v', nv', hS', hB', ?_, ?_, ?_, q3, fun g hg => (hfr g hg).imp id (fun h => Nat.le_trans hsz h), ?_⟩
  · refine k2.get q1 (hnot _ (lt_get q1) (by omega) (fun g hg => ?_))
    have := (hP.lt g hg).2
    omega
  · refine q2.kept k2 (hnot _ (lt_get q2.1) bN.symm (fun g hg => ((nvx g hg).2.1).symm)) (hnot _ (q2.2.2.lt) bM.symm (fun g hg => ((nvx g hg).2.2.1).symm)) (fun y hy => ?_)
    refine hnot _ ((q2.2.1.lt y hy).2) ?_ ?_
    · rcases q3 y hy with h | h
      · exact bv y h
      · omega
    · intro g hg
      rcases q3 y hy with h | h
      · exact ((nvx g hg).2.2.2 y h).symm
      · have := (hP.lt g hg).2
        omega
  · rw [prsL_snoc]; exact hR'
  · refine ((k1.mono (S := b :: S :: N :: M :: (v.ownBlock.toList ++ nv.ownBlock.toList)) (fun i hi => .inl ?_)).trans k2 (fun i hi => .inl ?_))
    · simp only [List.mem_cons, List.mem_append] at hi ⊢
      rcases hi with h | h | h | h <;> simp [h]
    · simp only [List.mem_cons, List.mem_append] at hi ⊢
      rcases hi with h | h <;> simp [h]
end Go.Proofs.YtmicdbplkfdfnaaGreatDoor
