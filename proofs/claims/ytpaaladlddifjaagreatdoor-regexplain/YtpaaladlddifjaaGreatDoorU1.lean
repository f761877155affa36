/- The units of a text of ASCII signs. -/
import Derived.Test.YtpaaladlddifjaaGreatDoorR1
import Derived.LoopTactic
import Derived.Lib.IndexBytes
import Derived.Deep.AppendLies
set_option linter.unusedVariables false
namespace Go.Proofs.YtpaaladlddifjaaGreatDoor
open Go.RowKit

theorem info24 : (Tryz.prog.info? 24).map (fun i => (i.zero, i.size, i.bytes)) = some (some (.int .u16 0), 1, 2) := by kernel_rfl
/-- A text of these bytes. -/
def txt (l : List Nat) : ByteArray := ⟨(l.map UInt8.ofNat).toArray⟩
theorem txt_size (l : List Nat) : (txt l).size = l.length := by simp [txt, ByteArray.size]
theorem txt_list (l : List Nat) : (txt l).data.toList = l.map UInt8.ofNat := by simp [txt]
theorem txt_drop (l : List Nat) (k : Nat) : (txt l).extract k (txt l).size = txt (l.drop k) := by
  apply ByteArray.ext
  apply Array.toList_inj.1
  rw [Lib.extract_to_end, txt_list, txt_list, List.map_drop]
theorem txt_empty (l : List Nat) : (txt l).toList.isEmpty = l.isEmpty := by
  rw [Lib.toList_data, txt_list]
  cases l <;> rfl
theorem txt_head (b : Nat) (l : List Nat) (hb : b < 256) : ∀ h, ((txt (b :: l))[0]'h).toNat = b := by
  intro h
  show (UInt8.ofNat b).toNat = b
  rw [UInt8.toNat_ofNat']
  omega
theorem txt_at (l : List Nat) (hl : ∀ b ∈ l, b < 128) (k : Nat) (h : k < (txt l).size) : ((txt l)[k]'h).toNat = l[k]?.getD 0 := by
  have hk : k < l.length := by rw [txt_size] at h; exact h
  have hb := hl _ (List.getElem_mem hk)
  rw [List.getElem?_eq_getElem hk]
  show (((l.map UInt8.ofNat).toArray)[k]'(by simpa using hk)).toNat = _
  simp only [List.getElem_toArray, List.getElem_map, Option.getD_some, UInt8.toNat_ofNat']
  omega
theorem decode_ascii (s : ByteArray) (h0 : 0 < s.size) (hne : s.toList.isEmpty = false) (b : Nat) (ha : ∀ h, (s[0]'h).toNat = b) (hb : b < 128) (w : World) :
    Calls Tryz.prog 52 #[.string s] w fun e w' => e = .returned (.tuple #[.int .i32 (b : Int), .int .i64 1]) ∧ w' = w := by
  have ha0 := ha h0
  have hb1 : (b : Int) < 128 := by omega
  have k0 : (0 : Int) < (s.size : Int) := by omega
  clear ha
  go_enter Tryz.func52, Tryz.ntmps52
  go_wp2
  go_ret2
  exact ⟨rfl, rfl⟩
theorem pointAt_ascii (s : ByteArray) (h0 : 0 < s.size) (hne : s.toList.isEmpty = false) (b : Nat) (ha : ∀ h, (s[0]'h).toNat = b) (hb : b < 128) (w : World) :
    Calls Tryz.prog 31 #[.string s] w fun e w' => e = .returned (.tuple #[.int .i32 (b : Int), .int .i64 1]) ∧ w' = w := by
  have cD := decode_ascii s h0 hne b ha hb w
  have t1 : ((b : Int) == 65533) = false := by rw [beq_eq_false_iff_ne]; omega
  clear ha
  go_enter Tryz.func31, Tryz.ntmps31
  go_wp2_with (go_at_call 52; refine cD.mono ?_; rintro e w' ⟨rfl, rfl⟩)
  go_ret2
  exact ⟨rfl, rfl⟩
def uv (u : Nat) : Value := .int .u16 (u : Int)
set_option maxHeartbeats 1000000 in
set_option maxRecDepth 100000 in
theorem appU_one (B : Nat) (v : Value) (n : Nat) (xs : List Value) (r : Int) (h0 : 0 ≤ r) (h1 : r < 65536) (w : World) (hown : w.ownsRow B 24 1 v n xs) (hlen : n + 4 ≤ 1000000) (hBw : B ≤ w.heap.size) :
    Calls Tryz.prog 32 #[v, .int .i32 r] w fun e w' => ∃ v', e = .returned v' ∧ w'.ownsRow B 24 1 v' (n + 1) (xs ++ [.int .u16 r]) ∧ Kx v.ownBlock.toList w w' := by
  obtain ⟨i0, hi, hz0, hz1, hz2⟩ := info_parts info24
  have q3 : n + 1 ≤ maxLen := by unfold maxLen; omega
  go_enter Tryz.func32, Tryz.ntmps32
  go_wp2_with (at_builtin; refine wpList_append_own _ rfl _ _ 22 rfl B 24 i0 (.int .u16 0) 1 2 Tryz.underlying22 hi hz0 hz1 hz2 rfl (by decide) _ _ _ rfl (hown.alloc _) ⟨w.heap.size, 0, none⟩ 1 1 [.int .u16 r] rfl rfl (cells_new w [.int .u16 r] 24) (by intro u hu; rw [List.mem_singleton.1 hu]; rfl) q3 (by omega) (by simp; omega) ?_; intro v' w2 hown' hgrow _)
  go_ret
  exact ⟨_, rfl, hown', (Kx.alloc _ _ _).same (Kx.grown hgrow)⟩
theorem drop_cons (l : List Nat) (k : Nat) (h : k < l.length) : l.drop k = l[k]?.getD 0 :: l.drop (k + 1) := by
  rw [List.drop_eq_getElem_cons h, List.getElem?_eq_getElem h]
  rfl
theorem take_snoc' (us : List Nat) (i : Nat) (h : i < us.length) : us.take (i + 1) = us.take i ++ [us[i]?.getD 0] := by
  rw [List.take_add_one, List.getElem?_eq_getElem h]
  rfl
set_option maxRecDepth 100000 in
set_option maxHeartbeats 2000000 in
theorem units_ascii (l : List Nat) (hl : ∀ b ∈ l, b < 128) (hlen : l.length ≤ 100000) (w : World) :
    Calls Tryz.prog 20 #[.string (txt l)] w fun e w' => ∃ v, e = .returned v ∧ w'.ownsRow w.heap.size 24 1 v l.length (l.map uv) ∧ Kx [] w w' := by
  obtain ⟨i0, hi, hz0, hz1, hz2⟩ := info_parts info24
  have hsz := txt_size l
  by_cases h0 : l = []
  · subst h0
    have hne : (txt []).toList.isEmpty = true := txt_empty []
    generalize txt [] = s at *
    go_enter Tryz.func20, Tryz.ntmps20
    go_wp2
    go_ret
    exact ⟨_, rfl, World.ownsRow_nil _ _ _ _, Kx.refl _ _⟩
  · have hne : (txt l).toList.isEmpty = false := by rw [txt_empty]; cases l <;> simp_all
    have hpos : 0 < l.length := by cases l <;> simp_all
    have hdr := txt_drop l
    have hat := txt_at l hl
    generalize txt l = s at *
    rw [hsz] at hdr
    go_enter Tryz.func20, Tryz.ntmps20
    go_wp2_with (at_make; refine wpList_make_own _ rfl _ _ 22 rfl w.heap.size 24 i0 (.int .u16 0) 1 Tryz.underlying22 hi hz0 hz1 .i64 .i64 _ l.length rfl rfl rfl (by rw [hz2]; omega) (by unfold maxLen; omega) (Nat.le_refl _) ?_; intro w1 hown0 hg0)
    have hk1 : Kx [] w w1 := Kx.grown hg0
    go_loopw [3, 4] (fun v i wr => ∃ k : Nat, k ≤ l.length ∧ i = .int .i64 (k : Int) ∧ wr.ownsRow w.heap.size 24 1 v k ((l.take k).map uv) ∧ Kx [] w wr) (fun _ i _ => l.length - (intOf i).toNat)
    case atStart => exact ⟨0, Nat.zero_le _, rfl, hown0, hk1⟩
    case round =>
      obtain ⟨k, hk, rfl, hrow, hK⟩ := hrel
      by_cases hlt : k < l.length
      · have hb : l[k]?.getD 0 < 128 := by rw [List.getElem?_eq_getElem hlt]; exact hl _ (List.getElem_mem hlt)
        have hj := hat k (by omega)
        have j0 : ∀ w, (Instr.index 9 (.string s) (.int .i64 (k : Int))).run Tryz.prog w = .ok (.int .u8 ((l[k]?.getD 0 : Nat) : Int)) w := fun w => by
          rw [run_index_string w 9 s .i64 _ Tryz.underlying9, dif_pos ⟨by omega, by omega⟩]
          rw [← hj]
          rfl
        have HE : Hid ((l.take (k + 1)).map uv = (l.take k).map uv ++ [.int .u16 ((l[k]?.getD 0 : Nat) : Int)]) := (by rw [take_snoc' l k hlt, List.map_append]; rfl)
        have HR : Hid (wr.ownsRow w.heap.size 24 1 u3 k ((l.take k).map uv)) := hrow
        clear hj hat
        generalize l[k]?.getD 0 = b at *
        have hcz : (b : Int) < 128 := by omega
        have wu : IntKind.u16.wrap (b : Int) = (b : Int) := by rw [IntKind.wrap_u16]; omega
        have q3 : k + 1 ≤ maxLen := by unfold maxLen; omega
        have hKs := hK.size
        clear hrow hdr
        go_wp2_with (at_builtin; refine wpList_append_own _ rfl _ _ 22 rfl w.heap.size 24 i0 (.int .u16 0) 1 2 Tryz.underlying22 hi hz0 hz1 hz2 rfl (by decide) _ _ _ rfl (HR.out.alloc _) ⟨wr.heap.size, 0, none⟩ 1 1 [.int .u16 (b : Int)] rfl rfl (cells_new wr [.int .u16 (b : Int)] 24) (by intro u hu; rw [List.mem_singleton.1 hu]; rfl) q3 (by omega) (by simp; omega) ?_; intro v' w3 hown' hgrow _)
        have hk3 : Kx u3.ownBlock.toList wr w3 := (Kx.alloc _ _ _).same (Kx.grown hgrow)
        go_roundw
        case rel => exact ⟨k + 1, by omega, by go_num, by rw [HE.out]; exact hown', hK.trans hk3 (fun q hq => .inr (HR.out.lt q (by simpa using hq)).1)⟩
        case measure => simp [intOf]; omega
      · obtain rfl : k = l.length := by omega
        rw [List.take_length] at hrow
        clear hdr hat
        go_wp2
        go_ret
        exact ⟨_, rfl, hrow, hK⟩
/-- What is owned can be read. -/
theorem lu_of_owns {w : World} {B : Nat} {v : Value} {l : List Nat} (h : w.ownsRow B 24 1 v l.length (l.map uv)) : ∃ a c, v = .slice a l.length c ∧ Lu w a l := by
  rcases h.2 with ⟨rfl, h0⟩ | ⟨g, cap, cur, rfl, _, hg, _, _, _, ht⟩
  · have e := List.eq_nil_of_length_eq_zero h0
    subst e
    exact ⟨none, 0, rfl, fun hn => absurd rfl hn⟩
  · refine ⟨some ⟨g, 0, none⟩, cap, rfl, fun _ => ⟨g, cur, (0, 0), rfl, hg, fun j hj => ?_⟩⟩
    have e := congrArg (fun q => q[j]?) ht
    rw [List.getElem?_take_of_lt (by omega), List.getElem?_map, List.getElem?_eq_getElem hj] at e
    rw [List.getElem?_eq_getElem hj]
    simpa [uv] using e
end Go.Proofs.YtpaaladlddifjaaGreatDoor
