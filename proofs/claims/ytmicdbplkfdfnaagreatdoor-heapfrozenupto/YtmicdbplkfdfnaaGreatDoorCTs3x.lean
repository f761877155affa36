/- The law, the end of a round of its fourth loop. -/
import Derived.Test.YtmicdbplkfdfnaaGreatDoorCTs1
set_option linter.unusedVariables false
namespace Go.Proofs.YtmicdbplkfdfnaaGreatDoor
open Go.RowKit Go.Shelf Go.Maps
attribute [local go_sem] run_store_flt build32 build34 build34s

/-- The text of a block. -/
def findBlock (id : Nat) : Code → Option Code
  | .block i c => match i == id with
    | true => some c
    | false => findBlock id c
  | .seq a b => match findBlock id a with
    | some c => some c
    | none => findBlock id b
  | .loop c => findBlock id c
  | .cond _ a b => match findBlock id a with
    | some c => some c
    | none => findBlock id b
  | _ => none
/-- A round of the fourth loop. -/
noncomputable def rnd4 : Code := (findBlock 7 f3B).getD .skip
set_option maxRecDepth 1000000 in
set_option maxHeartbeats 40000000 in
theorem rndC (w : World) (O H b : Nat) (arr : Bool) (ks : List Nat) (L : List ByteArray) (P : List Pr) (f : Nat → Option Pr) (ga va sa : Option Addr) (n ca cb sn sc M : Nat) (hn : n = (allK ks L).length) (hn61 : n ≤ 61) (hE : Env w) (h4 : Fin4 arr ks L P f) (hM : M ≤ 9000) (W : World) (q : Nat) (kind : Int) (key : ByteArray) (hkey : key.size ≤ 2000000) (hv hg ht hw he hc wt en cf : Bool) (k g st : Int) (x : Nat) (hx : x < 18446744073709551616) (tx : ByteArray) (htx : tx.size ≤ 2000000) (c0 : W.cell? ⟨q, 0, none⟩ = some (.int .i64 kind)) (c5 : W.cell? ⟨q, 5, none⟩ = some (.bool hv)) (c6 : W.cell? ⟨q, 6, none⟩ = some (.bool hg)) (c7 : W.cell? ⟨q, 7, none⟩ = some (.bool ht)) (c8 : W.cell? ⟨q, 8, none⟩ = some (.bool hw)) (c9 : W.cell? ⟨q, 9, none⟩ = some (.bool he)) (c10 : W.cell? ⟨q, 10, none⟩ = some (.bool hc)) (c11 : W.cell? ⟨q, 11, none⟩ = some (.int .i64 k)) (c12 : W.cell? ⟨q, 12, none⟩ = some (.float .f64 x)) (c13 : W.cell? ⟨q, 13, none⟩ = some (.string tx)) (c14 : W.cell? ⟨q, 14, none⟩ = some (.int .i64 1)) (c15 : W.cell? ⟨q, 15, none⟩ = some (.int .i64 g)) (c16 : W.cell? ⟨q, 16, none⟩ = some (.int .i64 st)) (c17 : W.cell? ⟨q, 17, none⟩ = some (.bool wt)) (c18 : W.cell? ⟨q, 18, none⟩ = some (.bool en)) (c19 : W.cell? ⟨q, 19, none⟩ = some (.bool cf))
    (hC : LawC w O H b arr ks L P f [(va, (ofAll ks L P f).flatMap dL), (ga, (allK ks L).map Value.string)] M W) (z0 z2 z3 z4 z5 z6 z8 z10 z11 z13 z15 z16 z17 z18 z21 z22 z23 z24 z25 z26 z27 z28 z29 z30 z31 z32 z33 z34 z35 z36 z37 z38 z39 z40 z41 z42 z43 z44 z45 z46 z47 z48 z49 z50 z51 z52 z53 z54 z55 z56 z57 z58 z59 z60 z61 z62 z63 z64 z65 z66 z67 z68 z69 z70 z71 z72 z73 z74 z75 z76 z77 z78 z79 z80 z81 z82 z83 z84 z85 z86 z87 z88 z89 z90 z91 z92 z93 z94 z95 z96 z97 z98 z99 z100 z101 z102 z103 z104 z105 z106 z107 z108 z109 z110 z111 z112 z113 z114 z115 z116 z117 z118 z119 z120 z121 z122 z123 z124 z125 z126 z127 z128 z129 z130 z131 z132 z133 z134 z135 z136 z137 z138 z139 z140 z141 z142 z143 z144 z145 z146 z147 z148 z149 z150 z151 z152 z153 z154 z155 z156 z157 z158 z159 z160 z161 z162 z163 z164 z165 z166 z167 z168 z169 z170 z171 z172 z173 z174 z175 z176 z177 z178 z179 z180 z181 z182 z183 z184 z185 z186 z187 z188 z189 z190 z191 z192 z193 z194 z195 z196 z197 z198 z199 z200 z201 z202 z203 z204 z205 z206 z207 z208 z209 z210 z211 z212 z213 z214 z215 z216 z217 z218 z219 z220 z221 z222 z223 z224 z225 z226 z227 z228 z229 z230 z231 z232 z233 z234 z235 z236 z237 z238 z239 z240 z241 z242 z243 : Value) (Q : Exit → Act → World → Prop) (hQ : ∀ (v19 v20 v142 v143 v144 v145 v146 v147 v148 v149 v150 v151 v152 v153 v154 v155 v156 v157 v158 v159 v160 v161 v162 v163 v164 v165 v166 v167 v168 v169 v170 v171 v172 v173 v174 v175 v176 v177 v178 v179 v180 v181 v182 v183 v184 v185 v186 v187 v188 v189 v190 v191 v192 v193 v194 v195 v196 v197 v198 v199 v200 : Value) (w' : World), LawC w O H b arr ks L P f [(va, (ofAll ks L P f).flatMap dL), (ga, (allK ks L).map Value.string)] (M + 1) w' → Q .normal ⟨#[z0, .slice sa sn sc, z2, z3, z4, z5, z6, .pointer (some ⟨O, 0, none⟩), z8, .int .i64 1, z10, z11, .slice ga n ca, z13, .slice va n cb, z15, z16, z17, z18, v19, v20, z21, z22, z23, z24, z25, z26, z27, z28, z29, z30, z31, z32, z33, z34, z35, z36, z37, z38, z39, z40, z41, z42, z43, z44, z45, z46, z47, z48, z49, z50, z51, z52, z53, z54, z55, z56, z57, z58, z59, z60, z61, z62, z63, z64, z65, z66, z67, z68, z69, z70, z71, z72, z73, z74, z75, z76, z77, z78, z79, z80, z81, z82, z83, z84, z85, z86, z87, z88, z89, z90, z91, z92, z93, z94, z95, z96, z97, z98, z99, z100, z101, z102, z103, z104, z105, z106, z107, z108, z109, z110, z111, z112, z113, z114, z115, z116, z117, z118, z119, z120, z121, z122, z123, z124, z125, z126, z127, z128, z129, z130, z131, z132, z133, z134, z135, z136, z137, z138, z139, z140, z141, v142, v143, v144, v145, v146, v147, v148, v149, v150, v151, v152, v153, v154, v155, v156, v157, v158, v159, v160, v161, v162, v163, v164, v165, v166, v167, v168, v169, v170, v171, v172, v173, v174, v175, v176, v177, v178, v179, v180, v181, v182, v183, v184, v185, v186, v187, v188, v189, v190, v191, v192, v193, v194, v195, v196, v197, v198, v199, v200, z201, z202, z203, z204, z205, z206, z207, z208, z209, z210, z211, z212, z213, z214, z215, z216, z217, z218, z219, z220, z221, z222, z223, z224, z225, z226, z227, z228, z229, z230, z231, z232, z233, z234, z235, z236, z237, z238, z239, z240, z241, z242, z243], []⟩ w') :
    Code.wp Tryz.prog (dropC 6 rnd4) Q ⟨#[z0, .slice sa sn sc, z2, z3, z4, z5, z6, .pointer (some ⟨O, 0, none⟩), z8, .int .i64 1, z10, z11, .slice ga n ca, z13, .slice va n cb, z15, z16, z17, z18, .pointer (some ⟨q, 0, none⟩), .string key, z21, z22, z23, z24, z25, z26, z27, z28, z29, z30, z31, z32, z33, z34, z35, z36, z37, z38, z39, z40, z41, z42, z43, z44, z45, z46, z47, z48, z49, z50, z51, z52, z53, z54, z55, z56, z57, z58, z59, z60, z61, z62, z63, z64, z65, z66, z67, z68, z69, z70, z71, z72, z73, z74, z75, z76, z77, z78, z79, z80, z81, z82, z83, z84, z85, z86, z87, z88, z89, z90, z91, z92, z93, z94, z95, z96, z97, z98, z99, z100, z101, z102, z103, z104, z105, z106, z107, z108, z109, z110, z111, z112, z113, z114, z115, z116, z117, z118, z119, z120, z121, z122, z123, z124, z125, z126, z127, z128, z129, z130, z131, z132, z133, z134, z135, z136, z137, z138, z139, z140, z141, z142, z143, z144, z145, z146, z147, z148, z149, z150, z151, z152, z153, z154, z155, z156, z157, z158, z159, z160, z161, z162, z163, z164, z165, z166, z167, z168, z169, z170, z171, z172, z173, z174, z175, z176, z177, z178, z179, z180, z181, z182, z183, z184, z185, z186, z187, z188, z189, z190, z191, z192, z193, z194, z195, z196, z197, z198, z199, z200, z201, z202, z203, z204, z205, z206, z207, z208, z209, z210, z211, z212, z213, z214, z215, z216, z217, z218, z219, z220, z221, z222, z223, z224, z225, z226, z227, z228, z229, z230, z231, z232, z233, z234, z235, z236, z237, z238, z239, z240, z241, z242, z243], []⟩ W := by
  have HQ := (show Hid _ from hQ)
  have CX := (show Hid (Unit → _) from fun _ : Unit => hC.deletes hE h4 key hkey W (Kx.refl _ _))
  have CF := (show Hid (Unit → _) from fun _ : Unit => hC.defines hE h4 hM key hkey hv hg ht hw he hc wt en cf k g st x hx tx htx W (Kx.refl _ _))
  clear hQ hC hE h4 hn
  conv => arg 2; whnf
  by_cases hk3 : kind = 3
  · subst hk3
    clear CF
    go_wp2_with (first | (go_at_call 12; fail))
    refine (CX.out ()).mono ?_
    rintro e w3 ⟨⟨z, rfl⟩, h3⟩
    go_wp2
    exact HQ.out _ _ _ _ _ _ _ _ _ _ _ _ _ _ _ _ _ _ _ _ _ _ _ _ _ _ _ _ _ _ _ _ _ _ _ _ _ _ _ _ _ _ _ _ _ _ _ _ _ _ _ _ _ _ _ _ _ _ _ _ _ w3 h3
  · have hk3b : (kind == 3) = false := by rw [beq_eq_false_iff_ne]; exact hk3
    clear CX
    go_wp2_with (first | (go_at_call 7; fail))
    refine (CF.out ()).mono ?_
    rintro e w3 ⟨⟨z, rfl⟩, h3⟩
    go_wp2
    exact HQ.out _ _ _ _ _ _ _ _ _ _ _ _ _ _ _ _ _ _ _ _ _ _ _ _ _ _ _ _ _ _ _ _ _ _ _ _ _ _ _ _ _ _ _ _ _ _ _ _ _ _ _ _ _ _ _ _ _ _ _ _ _ w3 h3
end Go.Proofs.YtmicdbplkfdfnaaGreatDoor
set_option linter.unusedVariables false
namespace Go.Proofs.YtmicdbplkfdfnaaGreatDoor
open Go.RowKit Go.Shelf Go.Maps
attribute [local go_sem] run_store_flt build32 build34 build34s
set_option maxRecDepth 1000000 in
set_option maxHeartbeats 40000000 in
theorem rndB (w : World) (O H b : Nat) (arr : Bool) (ks : List Nat) (L : List ByteArray) (P : List Pr) (f : Nat → Option Pr) (ga va sa : Option Addr) (n ca cb sn sc M : Nat) (hn : n = (allK ks L).length) (hn61 : n ≤ 61) (hE : Env w) (h4 : Fin4 arr ks L P f) (hM : M ≤ 9000) (W : World) (q : Nat) (kind A B : Int) (hA1 : -9223372036854775808 ≤ A) (hA2 : A ≤ 9223372036854775807) (key0 : ByteArray) (hkey : key0.size ≤ 2000000) (hv hg ht hw he hc wt en cf : Bool) (k g st : Int) (x : Nat) (hx : x < 18446744073709551616) (tx : ByteArray) (htx : tx.size ≤ 2000000) (c0 : W.cell? ⟨q, 0, none⟩ = some (.int .i64 kind)) (c1 : W.cell? ⟨q, 1, none⟩ = some (.int .i64 A)) (c2 : W.cell? ⟨q, 2, none⟩ = some (.int .i64 B)) (c4 : W.cell? ⟨q, 4, none⟩ = some (.string key0)) (c5 : W.cell? ⟨q, 5, none⟩ = some (.bool hv)) (c6 : W.cell? ⟨q, 6, none⟩ = some (.bool hg)) (c7 : W.cell? ⟨q, 7, none⟩ = some (.bool ht)) (c8 : W.cell? ⟨q, 8, none⟩ = some (.bool hw)) (c9 : W.cell? ⟨q, 9, none⟩ = some (.bool he)) (c10 : W.cell? ⟨q, 10, none⟩ = some (.bool hc)) (c11 : W.cell? ⟨q, 11, none⟩ = some (.int .i64 k)) (c12 : W.cell? ⟨q, 12, none⟩ = some (.float .f64 x)) (c13 : W.cell? ⟨q, 13, none⟩ = some (.string tx)) (c14 : W.cell? ⟨q, 14, none⟩ = some (.int .i64 1)) (c15 : W.cell? ⟨q, 15, none⟩ = some (.int .i64 g)) (c16 : W.cell? ⟨q, 16, none⟩ = some (.int .i64 st)) (c17 : W.cell? ⟨q, 17, none⟩ = some (.bool wt)) (c18 : W.cell? ⟨q, 18, none⟩ = some (.bool en)) (c19 : W.cell? ⟨q, 19, none⟩ = some (.bool cf))
    (hC : LawC w O H b arr ks L P f [(va, (ofAll ks L P f).flatMap dL), (ga, (allK ks L).map Value.string)] M W) (z0 z2 z3 z4 z5 z6 z8 z10 z11 z13 z15 z16 z17 z18 z20 z21 z22 z23 z24 z25 z26 z27 z28 z29 z30 z31 z32 z33 z34 z35 z36 z37 z38 z39 z40 z41 z42 z43 z44 z45 z46 z47 z48 z49 z50 z51 z52 z53 z54 z55 z56 z57 z58 z59 z60 z61 z62 z63 z64 z65 z66 z67 z68 z69 z70 z71 z72 z73 z74 z75 z76 z77 z78 z79 z80 z81 z82 z83 z84 z85 z86 z87 z88 z89 z90 z91 z92 z93 z94 z95 z96 z97 z98 z99 z100 z101 z102 z103 z104 z105 z106 z107 z108 z109 z110 z111 z112 z113 z114 z115 z116 z117 z118 z119 z120 z121 z122 z123 z124 z125 z126 z127 z128 z129 z130 z131 z132 z133 z134 z135 z136 z137 z138 z139 z140 z141 z142 z143 z144 z145 z146 z147 z148 z149 z150 z151 z152 z153 z154 z155 z156 z157 z158 z159 z160 z161 z162 z163 z164 z165 z166 z167 z168 z169 z170 z171 z172 z173 z174 z175 z176 z177 z178 z179 z180 z181 z182 z183 z184 z185 z186 z187 z188 z189 z190 z191 z192 z193 z194 z195 z196 z197 z198 z199 z200 z201 z202 z203 z204 z205 z206 z207 z208 z209 z210 z211 z212 z213 z214 z215 z216 z217 z218 z219 z220 z221 z222 z223 z224 z225 z226 z227 z228 z229 z230 z231 z232 z233 z234 z235 z236 z237 z238 z239 z240 z241 z242 z243 : Value) (Q : Exit → Act → World → Prop) (hQ : ∀ (v19 v20 v142 v143 v144 v145 v146 v147 v148 v149 v150 v151 v152 v153 v154 v155 v156 v157 v158 v159 v160 v161 v162 v163 v164 v165 v166 v167 v168 v169 v170 v171 v172 v173 v174 v175 v176 v177 v178 v179 v180 v181 v182 v183 v184 v185 v186 v187 v188 v189 v190 v191 v192 v193 v194 v195 v196 v197 v198 v199 v200 : Value) (w' : World), LawC w O H b arr ks L P f [(va, (ofAll ks L P f).flatMap dL), (ga, (allK ks L).map Value.string)] (M + 1) w' → Q .normal ⟨#[z0, .slice sa sn sc, z2, z3, z4, z5, z6, .pointer (some ⟨O, 0, none⟩), z8, .int .i64 1, z10, z11, .slice ga n ca, z13, .slice va n cb, z15, z16, z17, z18, v19, v20, z21, z22, z23, z24, z25, z26, z27, z28, z29, z30, z31, z32, z33, z34, z35, z36, z37, z38, z39, z40, z41, z42, z43, z44, z45, z46, z47, z48, z49, z50, z51, z52, z53, z54, z55, z56, z57, z58, z59, z60, z61, z62, z63, z64, z65, z66, z67, z68, z69, z70, z71, z72, z73, z74, z75, z76, z77, z78, z79, z80, z81, z82, z83, z84, z85, z86, z87, z88, z89, z90, z91, z92, z93, z94, z95, z96, z97, z98, z99, z100, z101, z102, z103, z104, z105, z106, z107, z108, z109, z110, z111, z112, z113, z114, z115, z116, z117, z118, z119, z120, z121, z122, z123, z124, z125, z126, z127, z128, z129, z130, z131, z132, z133, z134, z135, z136, z137, z138, z139, z140, z141, v142, v143, v144, v145, v146, v147, v148, v149, v150, v151, v152, v153, v154, v155, v156, v157, v158, v159, v160, v161, v162, v163, v164, v165, v166, v167, v168, v169, v170, v171, v172, v173, v174, v175, v176, v177, v178, v179, v180, v181, v182, v183, v184, v185, v186, v187, v188, v189, v190, v191, v192, v193, v194, v195, v196, v197, v198, v199, v200, z201, z202, z203, z204, z205, z206, z207, z208, z209, z210, z211, z212, z213, z214, z215, z216, z217, z218, z219, z220, z221, z222, z223, z224, z225, z226, z227, z228, z229, z230, z231, z232, z233, z234, z235, z236, z237, z238, z239, z240, z241, z242, z243], []⟩ w') :
    Code.wp Tryz.prog (dropC 4 rnd4) Q ⟨#[z0, .slice sa sn sc, z2, z3, z4, z5, z6, .pointer (some ⟨O, 0, none⟩), z8, .int .i64 1, z10, z11, .slice ga n ca, z13, .slice va n cb, z15, z16, z17, z18, .pointer (some ⟨q, 0, none⟩), z20, z21, z22, z23, z24, z25, z26, z27, z28, z29, z30, z31, z32, z33, z34, z35, z36, z37, z38, z39, z40, z41, z42, z43, z44, z45, z46, z47, z48, z49, z50, z51, z52, z53, z54, z55, z56, z57, z58, z59, z60, z61, z62, z63, z64, z65, z66, z67, z68, z69, z70, z71, z72, z73, z74, z75, z76, z77, z78, z79, z80, z81, z82, z83, z84, z85, z86, z87, z88, z89, z90, z91, z92, z93, z94, z95, z96, z97, z98, z99, z100, z101, z102, z103, z104, z105, z106, z107, z108, z109, z110, z111, z112, z113, z114, z115, z116, z117, z118, z119, z120, z121, z122, z123, z124, z125, z126, z127, z128, z129, z130, z131, z132, z133, z134, z135, z136, z137, z138, z139, z140, z141, z142, z143, z144, z145, z146, z147, z148, z149, z150, z151, z152, z153, z154, z155, z156, z157, z158, z159, z160, z161, z162, z163, z164, z165, z166, z167, z168, z169, z170, z171, z172, z173, z174, z175, z176, z177, z178, z179, z180, z181, z182, z183, z184, z185, z186, z187, z188, z189, z190, z191, z192, z193, z194, z195, z196, z197, z198, z199, z200, z201, z202, z203, z204, z205, z206, z207, z208, z209, z210, z211, z212, z213, z214, z215, z216, z217, z218, z219, z220, z221, z222, z223, z224, z225, z226, z227, z228, z229, z230, z231, z232, z233, z234, z235, z236, z237, z238, z239, z240, z241, z242, z243], []⟩ W := by
  have HQ := (show Hid _ from hQ)
  have HC : Hid (LawC w O H b arr ks L P f [(va, (ofAll ks L P f).flatMap dL), (ga, (allK ks L).map Value.string)] M W) := hC
  have HN : Hid (n = (allK ks L).length) := hn
  have HE : Hid (Env w) := hE
  have HF : Hid (Fin4 arr ks L P f) := h4
  clear hQ hC hE h4 hn
  conv => arg 2; whnf
  refine wp_seq_k ?_
  intro K1 hK1
  have HK1 := (show Hid _ from hK1)
  clear hK1
  go_wp2
  refine HK1.out _ _ ?_
  clear HK1
  refine wp_seq_k ?_
  intro K2 hK2
  have HK2 := (show Hid _ from hK2)
  clear hK2
  by_cases hB : (0 : Int) < B
  · by_cases hn0 : 0 < n
    · have hn1 : (0 : Int) < (n : Int) := by omega
      have CP := (show Hid (Unit → _) from fun _ : Unit => pick_n A n hn0 (by omega) W hA1 hA2)
      go_wp2_with (first | (go_at_call 11; fail))
      refine (CP.out ()).mono ?_
      rintro e w3 ⟨⟨z, hz, rfl⟩, hw3⟩
      obtain rfl := hw3.symm
      obtain ⟨s, hs⟩ : ∃ s, (allK ks L)[z]? = some s := ⟨_, List.getElem?_eq_getElem (by have := HN.out; omega)⟩
      have hm : ((allK ks L).map Value.string)[z]? = some (.string s) := by rw [List.getElem?_map, hs]; rfl
      obtain ⟨ga1, hga, hca⟩ := HC.out.at (List.mem_cons_of_mem _ (List.mem_cons_self ..)) hm
      have e0 := hca W (Kx.refl _ _) z _ hm
      have hss : s.size ≤ 2000000 := by
        obtain ⟨F, h1, _, _, _⟩ := HC.out
        exact allK_size h1 HF.out.kb hs
      subst hga
      clear hm hca hs CP hw3
      go_wp2
      refine HK2.out _ _ ?_
      exact rndC w O H b arr ks L P f _ va sa n ca cb sn sc M HN.out hn61 HE.out HF.out hM W q kind s hss hv hg ht hw he hc wt en cf k g st x hx tx htx c0 c5 c6 c7 c8 c9 c10 c11 c12 c13 c14 c15 c16 c17 c18 c19 HC.out _ _ _ _ _ _ _ _ _ _ _ _ _ _ _ _ _ _ _ _ _ _ _ _ _ _ _ _ _ _ _ _ _ _ _ _ _ _ _ _ _ _ _ _ _ _ _ _ _ _ _ _ _ _ _ _ _ _ _ _ _ _ _ _ _ _ _ _ _ _ _ _ _ _ _ _ _ _ _ _ _ _ _ _ _ _ _ _ _ _ _ _ _ _ _ _ _ _ _ _ _ _ _ _ _ _ _ _ _ _ _ _ _ _ _ _ _ _ _ _ _ _ _ _ _ _ _ _ _ _ _ _ _ _ _ _ _ _ _ _ _ _ _ _ _ _ _ _ _ _ _ _ _ _ _ _ _ _ _ _ _ _ _ _ _ _ _ _ _ _ _ _ _ _ _ _ _ _ _ _ _ _ _ _ _ _ _ _ _ _ _ _ _ _ _ _ _ _ _ _ _ _ _ _ _ _ _ _ _ _ _ _ _ _ _ _ _ _ _ _ _ _ _ _ _ _ _ _ _ _ _ _ _ _ _ _ _ Q HQ.out
    · have hn1 : ¬ (0 : Int) < (n : Int) := by omega
      go_wp2
      refine HK2.out _ _ ?_
      exact rndC w O H b arr ks L P f ga va sa n ca cb sn sc M HN.out hn61 HE.out HF.out hM W q kind key0 hkey hv hg ht hw he hc wt en cf k g st x hx tx htx c0 c5 c6 c7 c8 c9 c10 c11 c12 c13 c14 c15 c16 c17 c18 c19 HC.out _ _ _ _ _ _ _ _ _ _ _ _ _ _ _ _ _ _ _ _ _ _ _ _ _ _ _ _ _ _ _ _ _ _ _ _ _ _ _ _ _ _ _ _ _ _ _ _ _ _ _ _ _ _ _ _ _ _ _ _ _ _ _ _ _ _ _ _ _ _ _ _ _ _ _ _ _ _ _ _ _ _ _ _ _ _ _ _ _ _ _ _ _ _ _ _ _ _ _ _ _ _ _ _ _ _ _ _ _ _ _ _ _ _ _ _ _ _ _ _ _ _ _ _ _ _ _ _ _ _ _ _ _ _ _ _ _ _ _ _ _ _ _ _ _ _ _ _ _ _ _ _ _ _ _ _ _ _ _ _ _ _ _ _ _ _ _ _ _ _ _ _ _ _ _ _ _ _ _ _ _ _ _ _ _ _ _ _ _ _ _ _ _ _ _ _ _ _ _ _ _ _ _ _ _ _ _ _ _ _ _ _ _ _ _ _ _ _ _ _ _ _ _ _ _ _ _ _ _ _ _ _ _ _ _ _ _ Q HQ.out
  · go_wp2
    refine HK2.out _ _ ?_
    exact rndC w O H b arr ks L P f ga va sa n ca cb sn sc M HN.out hn61 HE.out HF.out hM W q kind key0 hkey hv hg ht hw he hc wt en cf k g st x hx tx htx c0 c5 c6 c7 c8 c9 c10 c11 c12 c13 c14 c15 c16 c17 c18 c19 HC.out _ _ _ _ _ _ _ _ _ _ _ _ _ _ _ _ _ _ _ _ _ _ _ _ _ _ _ _ _ _ _ _ _ _ _ _ _ _ _ _ _ _ _ _ _ _ _ _ _ _ _ _ _ _ _ _ _ _ _ _ _ _ _ _ _ _ _ _ _ _ _ _ _ _ _ _ _ _ _ _ _ _ _ _ _ _ _ _ _ _ _ _ _ _ _ _ _ _ _ _ _ _ _ _ _ _ _ _ _ _ _ _ _ _ _ _ _ _ _ _ _ _ _ _ _ _ _ _ _ _ _ _ _ _ _ _ _ _ _ _ _ _ _ _ _ _ _ _ _ _ _ _ _ _ _ _ _ _ _ _ _ _ _ _ _ _ _ _ _ _ _ _ _ _ _ _ _ _ _ _ _ _ _ _ _ _ _ _ _ _ _ _ _ _ _ _ _ _ _ _ _ _ _ _ _ _ _ _ _ _ _ _ _ _ _ _ _ _ _ _ _ _ _ _ _ _ _ _ _ _ _ _ _ _ _ _ _ Q HQ.out
end Go.Proofs.YtmicdbplkfdfnaaGreatDoor
