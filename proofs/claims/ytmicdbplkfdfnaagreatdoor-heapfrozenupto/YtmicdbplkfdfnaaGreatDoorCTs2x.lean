/- The law, behind its fourth loop. -/
import Derived.Test.YtmicdbplkfdfnaaGreatDoorCTs1
import Derived.Test.YtmicdbplkfdfnaaGreatDoorCTs5
import Derived.Deep.CutBlock
set_option linter.unusedVariables false
namespace Go.Proofs.YtmicdbplkfdfnaaGreatDoor
open Go.RowKit Go.Shelf Go.Maps
attribute [local go_sem] run_store_flt build32 build34 build34s
set_option maxRecDepth 1000000 in
set_option maxHeartbeats 40000000 in
theorem tail5 (w : World) (O H b : Nat) (arr : Bool) (ks : List Nat) (L : List ByteArray) (P : List Pr) (f : Nat → Option Pr) (ga va : Option Addr) (n ca cb m : Nat) (hn : n = (allK ks L).length) (hn61 : n ≤ 61) (hE : Env w) (h4 : Fin4 arr ks L P f) (W : World)
    (hC : LawC w O H b arr ks L P f [(va, (ofAll ks L P f).flatMap dL), (ga, (allK ks L).map Value.string)] m W) (z0 z1 z2 z3 z4 z5 z6 z8 z10 z11 z13 z15 z16 z17 z18 z19 z20 z21 z22 z23 z24 z25 z26 z27 z28 z29 z30 z31 z32 z33 z34 z35 z36 z37 z38 z39 z40 z41 z42 z43 z44 z45 z46 z47 z48 z49 z50 z51 z52 z53 z54 z55 z56 z57 z58 z59 z60 z61 z62 z63 z64 z65 z66 z67 z68 z69 z70 z71 z72 z73 z74 z75 z76 z77 z78 z79 z80 z81 z82 z83 z84 z85 z86 z87 z88 z89 z90 z91 z92 z93 z94 z95 z96 z97 z98 z99 z100 z101 z102 z103 z104 z105 z106 z107 z108 z109 z110 z111 z112 z113 z114 z115 z116 z117 z118 z119 z120 z121 z122 z123 z124 z125 z126 z127 z128 z129 z130 z131 z132 z133 z134 z135 z136 z137 z138 z139 z140 z141 z142 z143 z144 z145 z146 z147 z148 z149 z150 z151 z152 z153 z154 z155 z156 z157 z158 z159 z160 z161 z162 z163 z164 z165 z166 z167 z168 z169 z170 z171 z172 z173 z174 z175 z176 z177 z178 z179 z180 z181 z182 z183 z184 z185 z186 z187 z188 z189 z190 z191 z192 z193 z194 z195 z196 z197 z198 z199 z200 z201 z202 z203 z204 z205 z206 z207 z208 z209 z210 z211 z212 z213 z214 z215 z216 z217 z218 z219 z220 z221 z222 z223 z224 z225 z226 z227 z228 z229 z230 z231 z232 z233 z234 z235 z236 z237 z238 z239 z240 z241 z242 z243 : Value) :
    Code.wp Tryz.prog (dropC 15 f3B) (Good w) ⟨#[z0, z1, z2, z3, z4, z5, z6, .pointer (some ⟨O, 0, none⟩), z8, .int .i64 1, z10, z11, .slice ga n ca, z13, .slice va n cb, z15, z16, z17, z18, z19, z20, z21, z22, z23, z24, z25, z26, z27, z28, z29, z30, z31, z32, z33, z34, z35, z36, z37, z38, z39, z40, z41, z42, z43, z44, z45, z46, z47, z48, z49, z50, z51, z52, z53, z54, z55, z56, z57, z58, z59, z60, z61, z62, z63, z64, z65, z66, z67, z68, z69, z70, z71, z72, z73, z74, z75, z76, z77, z78, z79, z80, z81, z82, z83, z84, z85, z86, z87, z88, z89, z90, z91, z92, z93, z94, z95, z96, z97, z98, z99, z100, z101, z102, z103, z104, z105, z106, z107, z108, z109, z110, z111, z112, z113, z114, z115, z116, z117, z118, z119, z120, z121, z122, z123, z124, z125, z126, z127, z128, z129, z130, z131, z132, z133, z134, z135, z136, z137, z138, z139, z140, z141, z142, z143, z144, z145, z146, z147, z148, z149, z150, z151, z152, z153, z154, z155, z156, z157, z158, z159, z160, z161, z162, z163, z164, z165, z166, z167, z168, z169, z170, z171, z172, z173, z174, z175, z176, z177, z178, z179, z180, z181, z182, z183, z184, z185, z186, z187, z188, z189, z190, z191, z192, z193, z194, z195, z196, z197, z198, z199, z200, z201, z202, z203, z204, z205, z206, z207, z208, z209, z210, z211, z212, z213, z214, z215, z216, z217, z218, z219, z220, z221, z222, z223, z224, z225, z226, z227, z228, z229, z230, z231, z232, z233, z234, z235, z236, z237, z238, z239, z240, z241, z242, z243], []⟩ W := by
  have CK := (show Hid (Unit → _) from fun _ : Unit => hC.keys hE h4 W (Kx.refl _ _))
  have HN : Hid (n = (allK ks L).length) := hn
  have HE : Hid (Env w) := hE
  have HF : Hid (Fin4 arr ks L P f) := h4
  clear hC hn hE h4
  conv => arg 2; whnf
  refine wp_seq_k ?_
  intro K1 hK1
  have HK1 := (show Hid _ from hK1)
  clear hK1
  go_wp2_with (first | (go_at_call 8; fail))
  refine (CK.out ()).mono ?_
  rintro e w3 ⟨na, n2, cc, rfl, hn2, hC2⟩
  obtain rfl : n2 = n := hn2.trans HN.out.symm
  have HC2 := (show Hid (LawC w O H b arr ks L P f _ m w3) from hC2)
  clear CK hC2 hn2
  go_wp2
  refine HK1.out _ _ ?_
  refine wp_seq_k ?_
  intro K2 hK2
  have HK2 := (show Hid _ from hK2)
  clear hK2 HK1
  go_wp2
  refine HK2.out _ _ ?_
  exact tail6 w O H b arr ks L P f ga va na n2 ca cb cc m HN.out hn61 HE.out HF.out w3 HC2.out _ _ _ _ _ _ _ _ _ _ _ _ _ _ _ _ _ _ _ _ _ _ _ _ _ _ _ _ _ _ _ _ _ _ _ _ _ _ _ _ _ _ _ _ _ _ _ _ _ _ _ _ _ _ _ _ _ _ _ _ _ _ _ _ _ _ _ _ _ _ _ _ _ _ _ _ _ _ _ _ _ _ _ _ _ _ _ _ _ _ _ _ _ _ _ _ _ _ _ _ _ _ _ _ _ _ _ _ _ _ _ _ _ _ _ _ _ _ _ _ _ _ _ _ _ _ _ _ _ _ _ _ _ _ _ _ _ _ _ _ _ _ _ _ _ _ _ _ _ _ _ _ _ _ _ _ _ _ _ _ _ _ _ _ _ _ _ _ _ _ _ _ _ _ _ _ _ _ _ _ _ _ _ _ _ _ _ _ _ _ _ _ _ _ _ _ _ _ _ _ _ _ _ _ _ _ _ _ _ _ _ _ _ _ _ _ _ _ _ _ _ _ _ _ _ _ _ _ _ _ _ _ _ _ _ _ _ _ _
end Go.Proofs.YtmicdbplkfdfnaaGreatDoor
set_option linter.unusedVariables false
namespace Go.Proofs.YtmicdbplkfdfnaaGreatDoor
open Go.RowKit Go.Shelf Go.Maps
attribute [local go_sem] run_store_flt build32 build34 build34s
set_option maxRecDepth 1000000 in
set_option maxHeartbeats 40000000 in
theorem tail4 (w : World) (O H b : Nat) (arr : Bool) (ks : List Nat) (L : List ByteArray) (P : List Pr) (f : Nat → Option Pr) (ga va sa : Option Addr) (n ca cb sc : Nat) (hn : n = (allK ks L).length) (hn61 : n ≤ 61) (hE : Env w) (h4 : Fin4 arr ks L P f) (Ss : List StepD) (hlen2 : Ss.length ≤ 400)
    (hss : ∀ j s, Ss[j]? = some s → ∃ a, sa = some a ∧ a.block < w.heap.size ∧ ∀ t v, s.cells[t]? = some v → w.cell? (a.add (j * 21 + t)) = some v) (hok : ∀ s ∈ Ss, s.OK) (W : World)
    (hC : LawC w O H b arr ks L P f [(va, (ofAll ks L P f).flatMap dL), (ga, (allK ks L).map Value.string)] 100 W) (z0 z2 z3 z4 z5 z6 z8 z10 z11 z13 z15 z16 z17 z18 z19 z20 z21 z22 z23 z24 z25 z26 z27 z28 z29 z30 z31 z32 z33 z34 z35 z36 z37 z38 z39 z40 z41 z42 z43 z44 z45 z46 z47 z48 z49 z50 z51 z52 z53 z54 z55 z56 z57 z58 z59 z60 z61 z62 z63 z64 z65 z66 z67 z68 z69 z70 z71 z72 z73 z74 z75 z76 z77 z78 z79 z80 z81 z82 z83 z84 z85 z86 z87 z88 z89 z90 z91 z92 z93 z94 z95 z96 z97 z98 z99 z100 z101 z102 z103 z104 z105 z106 z107 z108 z109 z110 z111 z112 z113 z114 z115 z116 z117 z118 z119 z120 z121 z122 z123 z124 z125 z126 z127 z128 z129 z130 z131 z132 z133 z134 z135 z136 z137 z138 z139 z140 z141 z142 z143 z144 z145 z146 z147 z148 z149 z150 z151 z152 z153 z154 z155 z156 z157 z158 z159 z160 z161 z162 z163 z164 z165 z166 z167 z168 z169 z170 z171 z172 z173 z174 z175 z176 z177 z178 z179 z180 z181 z182 z183 z184 z185 z186 z187 z188 z189 z190 z191 z192 z193 z194 z195 z196 z197 z198 z199 z200 z201 z202 z203 z204 z205 z206 z207 z208 z209 z210 z211 z212 z213 z214 z215 z216 z217 z218 z219 z220 z221 z222 z223 z224 z225 z226 z227 z228 z229 z230 z231 z232 z233 z234 z235 z236 z237 z238 z239 z240 z241 z242 z243 : Value) :
    Code.wp Tryz.prog (dropC 14 f3B) (Good w) ⟨#[z0, .slice sa Ss.length sc, z2, z3, z4, z5, z6, .pointer (some ⟨O, 0, none⟩), z8, .int .i64 1, z10, z11, .slice ga n ca, z13, .slice va n cb, z15, z16, z17, z18, z19, z20, z21, z22, z23, z24, z25, z26, z27, z28, z29, z30, z31, z32, z33, z34, z35, z36, z37, z38, z39, z40, z41, z42, z43, z44, z45, z46, z47, z48, z49, z50, z51, z52, z53, z54, z55, z56, z57, z58, z59, z60, z61, z62, z63, z64, z65, z66, z67, z68, z69, z70, z71, z72, z73, z74, z75, z76, z77, z78, z79, z80, z81, z82, z83, z84, z85, z86, z87, z88, z89, z90, z91, z92, z93, z94, z95, z96, z97, z98, z99, z100, z101, z102, z103, z104, z105, z106, z107, z108, z109, z110, z111, z112, z113, z114, z115, z116, z117, z118, z119, z120, z121, z122, z123, z124, z125, z126, z127, z128, z129, z130, z131, z132, z133, z134, z135, z136, z137, z138, z139, z140, z141, z142, z143, z144, z145, z146, z147, z148, z149, z150, z151, z152, z153, z154, z155, z156, z157, z158, z159, z160, z161, z162, z163, z164, z165, z166, z167, z168, z169, z170, z171, z172, z173, z174, z175, z176, z177, z178, z179, z180, z181, z182, z183, z184, z185, z186, z187, z188, z189, z190, z191, z192, z193, z194, z195, z196, z197, z198, z199, z200, z201, z202, z203, z204, z205, z206, z207, z208, z209, z210, z211, z212, z213, z214, z215, z216, z217, z218, z219, z220, z221, z222, z223, z224, z225, z226, z227, z228, z229, z230, z231, z232, z233, z234, z235, z236, z237, z238, z239, z240, z241, z242, z243], []⟩ W := by
  have HSS := (show Hid _ from And.intro hss hok)
  have HC : Hid (LawC w O H b arr ks L P f [(va, (ofAll ks L P f).flatMap dL), (ga, (allK ks L).map Value.string)] 100 W) := hC
  have HN : Hid (n = (allK ks L).length) := hn
  have HE : Hid (Env w) := hE
  have HF : Hid (Fin4 arr ks L P f) := h4
  clear hC hE h4 hn hss hok
  conv => arg 2; whnf
  refine wp_seq_k ?_
  intro K1 hK1
  have HK1 := (show Hid _ from hK1)
  clear hK1
  go_wp2
  go_loopw [18, 19, 20] (fun v18 _ _ wr => ∃ m : Nat, m ≤ Ss.length ∧ v18 = .int .i64 m ∧ Hid (LawC w O H b arr ks L P f [(va, (ofAll ks L P f).flatMap dL), (ga, (allK ks L).map Value.string)] (100 + m) wr))
    (fun i _ _ _ => Ss.length - (intOf i).toNat)
  case atStart => exact ⟨0, Nat.zero_le _, rfl, HC⟩
  case round =>
    obtain ⟨m, hm, rfl, hI4⟩ := hrel
    clear HC
    by_cases hlt4 : m < Ss.length
    · obtain ⟨s, hs⟩ : ∃ s, Ss[m]? = some s := ⟨_, List.getElem?_eq_getElem hlt4⟩
      obtain ⟨a, rfl, hab, hcs⟩ := HSS.out.1 m s hs
      have hok := HSS.out.2 s (List.mem_of_getElem? hs)
      have hcw : ∀ t v, s.cells[t]? = some v → wr.cell? (a.add (m * 21 + t)) = some v := fun t v hv => (hI4.out.below.cell (p := a.add (m * 21 + t)) (by rw [addr_block]; exact hab)).trans (hcs t v hv)
      clear hcs hs
      obtain ⟨kind, A, B, C, key0, hv, hg, ht, hw, he, hc, k, x, tx, rf, g, st, wt, en, cf, la, ln, lc⟩ := s
      obtain ⟨ok1, ok2, ok3, ok4⟩ := hok
      have hload : (loadVar 42 (a.add (m * 21))).run Tryz.prog wr = .ok (.agg #[.int .i64 kind, .int .i64 A, .int .i64 B, .int .i64 C, .string key0, .bool hv, .bool hg, .bool ht, .bool hw, .bool he, .bool hc, .int .i64 k, .float .f64 x, .string tx, .int .i64 rf, .int .i64 g, .int .i64 st, .bool wt, .bool en, .bool cf, .slice la ln lc]) wr := load42 (cs := [.int .i64 kind, .int .i64 A, .int .i64 B, .int .i64 C, .string key0, .bool hv, .bool hg, .bool ht, .bool hw, .bool he, .bool hc, .int .i64 k, .float .f64 x, .string tx, .int .i64 rf, .int .i64 g, .int .i64 st, .bool wt, .bool en, .bool cf, .slice la ln lc]) rfl hcw
      have HL := (show Hid _ from hload)
      have HOK := (show Hid _ from And.intro ok1 (And.intro ok2 (And.intro ok3 ok4)))
      clear hcw hab ok1 ok2 ok3 ok4 hload
      go_upto_block 7 with fail
      refine wp_block ?_
      refine rndA w O H b arr ks L P f ga va a n ca cb Ss.length sc (100 + m) m HN.out hn61 HE.out HF.out (by omega) hlt4 hlen2 wr kind A B C HOK.out.2.2.2.1 HOK.out.2.2.2.2 key0 (Nat.le_trans HOK.out.1 (by omega)) hv hg ht hw he hc wt en cf k g st x HOK.out.2.2.1 tx (Nat.le_trans HOK.out.2.1 (by omega)) rf la ln lc HL.out hI4.out _ _ _ _ _ _ _ _ _ _ _ _ _ _ _ _ _ _ _ _ _ _ _ _ _ _ _ _ _ _ _ _ _ _ _ _ _ _ _ _ _ _ _ _ _ _ _ _ _ _ _ _ _ _ _ _ _ _ _ _ _ _ _ _ _ _ _ _ _ _ _ _ _ _ _ _ _ _ _ _ _ _ _ _ _ _ _ _ _ _ _ _ _ _ _ _ _ _ _ _ _ _ _ _ _ _ _ _ _ _ _ _ _ _ _ _ _ _ _ _ _ _ _ _ _ _ _ _ _ _ _ _ _ _ _ _ _ _ _ _ _ _ _ _ _ _ _ _ _ _ _ _ _ _ _ _ _ _ _ _ _ _ _ _ _ _ _ _ _ _ _ _ _ _ _ _ _ _ _ _ _ _ _ _ _ _ _ _ _ _ _ _ _ _ _ _ _ _ _ _ _ _ _ _ _ _ _ _ _ _ _ _ _ _ _ _ _ _ _ _ _ _ _ _ _ _ _ _ _ _ _ _ _ _ _ _ _ _ _ ?_
      clear HL HOK hI4
      intro v19 v20 v142 v143 v144 v145 v146 v147 v148 v149 v150 v151 v152 v153 v154 v155 v156 v157 v158 v159 v160 v161 v162 v163 v164 v165 v166 v167 v168 v169 v170 v171 v172 v173 v174 v175 v176 v177 v178 v179 v180 v181 v182 v183 v184 v185 v186 v187 v188 v189 v190 v191 v192 v193 v194 v195 v196 v197 v198 v199 v200 w' h'
      have H' : Hid (LawC w O H b arr ks L P f [(va, (ofAll ks L P f).flatMap dL), (ga, (allK ks L).map Value.string)] (100 + (m + 1)) w') := h'
      clear h'
      simp only [Exit.inBlock]
      go_wp2
      go_roundw
      case rel => exact ⟨m + 1, by omega, by go_num, H'⟩
      case measure => simp [intOf]; omega
    · have hI5 := (show Hid _ from hI4.out)
      clear hI4 HSS
      go_wp2
      refine HK1.out _ _ ?_
      exact tail5 w O H b arr ks L P f ga va n ca cb (100 + m) HN.out hn61 HE.out HF.out wr hI5.out _ _ _ _ _ _ _ _ _ _ _ _ _ _ _ _ _ _ _ _ _ _ _ _ _ _ _ _ _ _ _ _ _ _ _ _ _ _ _ _ _ _ _ _ _ _ _ _ _ _ _ _ _ _ _ _ _ _ _ _ _ _ _ _ _ _ _ _ _ _ _ _ _ _ _ _ _ _ _ _ _ _ _ _ _ _ _ _ _ _ _ _ _ _ _ _ _ _ _ _ _ _ _ _ _ _ _ _ _ _ _ _ _ _ _ _ _ _ _ _ _ _ _ _ _ _ _ _ _ _ _ _ _ _ _ _ _ _ _ _ _ _ _ _ _ _ _ _ _ _ _ _ _ _ _ _ _ _ _ _ _ _ _ _ _ _ _ _ _ _ _ _ _ _ _ _ _ _ _ _ _ _ _ _ _ _ _ _ _ _ _ _ _ _ _ _ _ _ _ _ _ _ _ _ _ _ _ _ _ _ _ _ _ _ _ _ _ _ _ _ _ _ _ _ _ _ _ _ _ _ _ _ _ _ _ _ _ _ _ _
end Go.Proofs.YtmicdbplkfdfnaaGreatDoor
