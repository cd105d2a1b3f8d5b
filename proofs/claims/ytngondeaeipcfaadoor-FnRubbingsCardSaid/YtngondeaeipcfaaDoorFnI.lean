/- The loops of FnRubbings, each one by itself. · The outer one of the nested loops of FnRubbings. -/
import Derived.Test.YtngondeaeipcfaaDoorFrP
import Derived.Test.YtngondeaeipcfaaDoorRbF

namespace Go.Proofs.YtngondeaeipcfaaDoor
open Go Go.RowKit

/-- All loops of a code, the outer ones first. -/
def loopsOf : Code → List Code
  | .loop c => .loop c :: loopsOf c
  | .seq a b => loopsOf a ++ loopsOf b
  | .block _ c => loopsOf c
  | .scope c => loopsOf c
  | .cond _ a b => loopsOf a ++ loopsOf b
  | _ => []
noncomputable def frLoop (k : Nat) : Code := ((Tryd.f3.body.map loopsOf).getD []).getD k .skip

set_option maxRecDepth 1000000 in
set_option maxHeartbeats 32000000 in
theorem fr_inner (R S : List Nat) (hR : rok R) (hS : rok S) (mx my top sz : Int) (hin : inM mx my) (hT : top = bmF R S mx my) (hBE : ∀ x y, inM x y → bmF R S x y ≤ top ∧ (bmF R S x y = top → rkM mx my ≤ rkM x y)) (hsz : max mx (-mx) + max my (-my) = sz) (pa : Nat) (v : Int) (hv1 : -5 ≤ v) (hv2 : v ≤ 5) (W : World) (ra : W.rangeAt pa 0 (rwc R)) (rb : W.rangeAt (pa + 1) 0 (rwc S)) (hpa : pa + 1 < W.heap.size)
    (Q : Exit → Act → World → Prop) (s0 s1 s2 s3 s4 s7 s8 s9 s13 s14 s15 s16 s17 s18 s19 s23 s24 s25 s26 s27 s28 s29 s30 s31 s32 s33 s34 s35 s36 s37 s38 s39 s40 s41 s42 s43 s44 s45 s46 s47 s48 s49 s50 s51 s52 s53 s54 s55 s56 s57 s58 s59 s60 s61 s62 s63 s64 s65 s66 s67 s68 s69 s70 s71 s72 s73 s74 s75 s76 s77 s78 s79 s80 s81 s82 s83 s84 s85 s86 s87 s88 s89 s90 s91 s92 s93 s94 s95 s96 s97 s98 s99 s100 s101 s102 s103 s104 s105 s106 s107 s108 s109 s110 s111 s112 s113 s114 s115 s116 s117 s118 s119 s120 s121 s122 s123 s124 s125 s126 s127 s128 s129 s130 s131 s132 s133 s134 s135 s136 s137 s138 s139 s140 s141 s142 s143 s144 s145 s146 s147 s148 s149 s150 s151 s152 s153 s154 s155 s156 s157 s158 s159 s160 s161 s162 s163 s164 s165 s166 s167 s168 s169 s170 s171 s172 s173 s174 s175 s176 s177 s178 s179 s180 s181 s182 s183 s184 s185 s186 s187 s188 s189 s190 s191 s192 s193 s194 s195 s196 s197 s198 s199 s200 s201 s202 s203 s204 s205 s206 s207 s208 s209 s210 s211 s212 s213 s214 s215 s216 s217 s218 s219 s220 s221 s222 s223 s224 s225 s226 s227 s228 s229 s230 s231 s232 s233 s234 s235 s236 s237 s238 s239 s240 s241 s242 s243 s244 s245 s246 s247 s248 s249 s250 s251 s252 s253 s254 s255 s256 s257 s258 s259 s260 s261 s262 s263 s264 s265 s266 s267 s268 s269 s270 s271 s272 s273 s274 s275 s276 s277 s278 s279 s280 s281 s282 s283 s284 s285 s286 s287 s288 s289 s290 s291 s292 s293 s294 s295 s296 s297 s298 s299 s300 s301 s302 s303 s304 s305 s306 s307 s308 s309 s310 s311 s312 s313 s314 s315 s316 s317 s318 s319 s320 s321 s322 s323 s324 s325 s326 s327 s328 s329 s330 s331 s332 s333 s334 s335 s336 s337 s338 s339 s340 s341 s342 s343 s344 s345 s346 s347 s348 s349 s350 s351 s352 s353 s354 s355 s356 s357 s358 : Value)
    (hQ : ∀ (u4 u23 u24 u25 u190 u191 u192 u193 u194 u195 u196 u197 u198 u199 u200 u201 u202 u203 u204 u205 u206 u207 u208 u209 u210 u211 u212 u213 u214 u215 u216 u217 u218 u219 u220 u221 u222 u223 u224 u225 u226 u227 u228 u229 u230 u231 u232 u233 u234 u235 u236 u237 u238 u239 u240 u241 u242 u243 u244 u245 u246 u247 u248 u249 u250 u251 u252 u253 u254 u255 u256 u257 u258 u259 u260 u261 u262 : Value) (W' : World), Below W.heap.size W W' → Q (.exit 4) ⟨#[s0, s1, s2, s3, u4, .pointer (some ⟨pa, 0, none⟩), .pointer (some ⟨pa + 1, 0, none⟩), s7, s8, s9, .int .i64 mx, .int .i64 my, .int .i64 top, s13, s14, s15, s16, s17, s18, s19, .int .i64 sz, .int .i64 v, .int .i64 6, u23, u24, u25, s26, s27, s28, s29, s30, s31, s32, s33, s34, s35, s36, s37, s38, s39, s40, s41, s42, s43, s44, s45, s46, s47, s48, s49, s50, s51, s52, s53, s54, s55, s56, s57, s58, s59, s60, s61, s62, s63, s64, s65, s66, s67, s68, s69, s70, s71, s72, s73, s74, s75, s76, s77, s78, s79, s80, s81, s82, s83, s84, s85, s86, s87, s88, s89, s90, s91, s92, s93, s94, s95, s96, s97, s98, s99, s100, s101, s102, s103, s104, s105, s106, s107, s108, s109, s110, s111, s112, s113, s114, s115, s116, s117, s118, s119, s120, s121, s122, s123, s124, s125, s126, s127, s128, s129, s130, s131, s132, s133, s134, s135, s136, s137, s138, s139, s140, s141, s142, s143, s144, s145, s146, s147, s148, s149, s150, s151, s152, s153, s154, s155, s156, s157, s158, s159, s160, s161, s162, s163, s164, s165, s166, s167, s168, s169, s170, s171, s172, s173, s174, s175, s176, s177, s178, s179, s180, s181, s182, s183, s184, s185, s186, s187, s188, s189, u190, u191, u192, u193, u194, u195, u196, u197, u198, u199, u200, u201, u202, u203, u204, u205, u206, u207, u208, u209, u210, u211, u212, u213, u214, u215, u216, u217, u218, u219, u220, u221, u222, u223, u224, u225, u226, u227, u228, u229, u230, u231, u232, u233, u234, u235, u236, u237, u238, u239, u240, u241, u242, u243, u244, u245, u246, u247, u248, u249, u250, u251, u252, u253, u254, u255, u256, u257, u258, u259, u260, u261, u262, s263, s264, s265, s266, s267, s268, s269, s270, s271, s272, s273, s274, s275, s276, s277, s278, s279, s280, s281, s282, s283, s284, s285, s286, s287, s288, s289, s290, s291, s292, s293, s294, s295, s296, s297, s298, s299, s300, s301, s302, s303, s304, s305, s306, s307, s308, s309, s310, s311, s312, s313, s314, s315, s316, s317, s318, s319, s320, s321, s322, s323, s324, s325, s326, s327, s328, s329, s330, s331, s332, s333, s334, s335, s336, s337, s338, s339, s340, s341, s342, s343, s344, s345, s346, s347, s348, s349, s350, s351, s352, s353, s354, s355, s356, s357, s358], []⟩ W') :
    Code.wp Tryd.prog (frLoop 2) Q ⟨#[s0, s1, s2, s3, s4, .pointer (some ⟨pa, 0, none⟩), .pointer (some ⟨pa + 1, 0, none⟩), s7, s8, s9, .int .i64 mx, .int .i64 my, .int .i64 top, s13, s14, s15, s16, s17, s18, s19, .int .i64 sz, .int .i64 v, .int .i64 (-5), s23, s24, s25, s26, s27, s28, s29, s30, s31, s32, s33, s34, s35, s36, s37, s38, s39, s40, s41, s42, s43, s44, s45, s46, s47, s48, s49, s50, s51, s52, s53, s54, s55, s56, s57, s58, s59, s60, s61, s62, s63, s64, s65, s66, s67, s68, s69, s70, s71, s72, s73, s74, s75, s76, s77, s78, s79, s80, s81, s82, s83, s84, s85, s86, s87, s88, s89, s90, s91, s92, s93, s94, s95, s96, s97, s98, s99, s100, s101, s102, s103, s104, s105, s106, s107, s108, s109, s110, s111, s112, s113, s114, s115, s116, s117, s118, s119, s120, s121, s122, s123, s124, s125, s126, s127, s128, s129, s130, s131, s132, s133, s134, s135, s136, s137, s138, s139, s140, s141, s142, s143, s144, s145, s146, s147, s148, s149, s150, s151, s152, s153, s154, s155, s156, s157, s158, s159, s160, s161, s162, s163, s164, s165, s166, s167, s168, s169, s170, s171, s172, s173, s174, s175, s176, s177, s178, s179, s180, s181, s182, s183, s184, s185, s186, s187, s188, s189, s190, s191, s192, s193, s194, s195, s196, s197, s198, s199, s200, s201, s202, s203, s204, s205, s206, s207, s208, s209, s210, s211, s212, s213, s214, s215, s216, s217, s218, s219, s220, s221, s222, s223, s224, s225, s226, s227, s228, s229, s230, s231, s232, s233, s234, s235, s236, s237, s238, s239, s240, s241, s242, s243, s244, s245, s246, s247, s248, s249, s250, s251, s252, s253, s254, s255, s256, s257, s258, s259, s260, s261, s262, s263, s264, s265, s266, s267, s268, s269, s270, s271, s272, s273, s274, s275, s276, s277, s278, s279, s280, s281, s282, s283, s284, s285, s286, s287, s288, s289, s290, s291, s292, s293, s294, s295, s296, s297, s298, s299, s300, s301, s302, s303, s304, s305, s306, s307, s308, s309, s310, s311, s312, s313, s314, s315, s316, s317, s318, s319, s320, s321, s322, s323, s324, s325, s326, s327, s328, s329, s330, s331, s332, s333, s334, s335, s336, s337, s338, s339, s340, s341, s342, s343, s344, s345, s346, s347, s348, s349, s350, s351, s352, s353, s354, s355, s356, s357, s358], []⟩ W := by
  have HR := hide hR
  have HS := hide hS
  have HT := hide hT
  have HBE := hide hBE
  have HSZ := hide hsz
  dsimp only at hQ
  have HQ := hide hQ
  have hin1 := hin.1
  have hin2 := hin.2
  have QA := hide (fun w' (h : Below W.heap.size W w') => rangeAt_below ra h (show pa < W.heap.size by omega))
  have QB := hide (fun w' (h : Below W.heap.size W w') => rangeAt_below rb h hpa)
  clear hR hS hT hBE hsz hQ ra rb hin
  dsimp only
  conv => arg 2; whnf
  go_loopw [22] (fun i wq => ∃ u : Int, -5 ≤ u ∧ u ≤ 6 ∧ i = .int .i64 u ∧ Below W.heap.size W wq) (fun i _ => (6 - intOf i).toNat)
  case atStart => exact ⟨-5, by omega, by omega, rfl, Below.refl _ _⟩
  case round =>
    obtain ⟨u, hu1, hu2, rfl, hB⟩ := hrel
    by_cases hlu : u ≤ 5
    · obtain ⟨au, hau⟩ : ∃ au, max u (-u) = au := ⟨_, rfl⟩
      obtain ⟨av, hav⟩ : ∃ av, max v (-v) = av := ⟨_, rfl⟩
      have hau5 : 0 ≤ au ∧ au ≤ 5 := by omega
      have hav5 : 0 ≤ av ∧ av ≤ 5 := by omega
      have hbt := HBE.out u v ⟨⟨hu1, hlu⟩, hv1, hv2⟩
      have HC := hide (fun W => show Calls Tryd.prog 23 #[.agg (rwc R).toArray, .agg (rwc S).toArray, .int .i64 u, .int .i64 v] W fun e w' => e = .returned (.tuple #[.int .i64 (bmF R S u v), .int .i64 0]) ∧ Below W.heap.size W w' from by
        have h := specMatchAt_any R HR.out S HS.out u v W
        have hmay : mayM u v = true := by unfold mayM; rw [inB_true.2 ⟨hu1, hlu⟩, inB_true.2 ⟨hv1, hv2⟩]; rfl
        rw [ma_yes hmay, (mb_yes hmay R).2] at h
        exact h)
      have hat : u = mx → v = my → bmF R S u v = top := fun h1 h2 => by rw [h1, h2]; exact HT.out.symm
      have hrk : bmF R S u v = top → ¬ au + av < sz ∧ (au + av = sz → ¬ v < my ∧ (v = my → ¬ u < mx)) := fun h => by
        have h1 := hbt.2 h
        unfold rkM absM at h1
        rw [HSZ.out, hau, hav] at h1
        omega
      have hle : ¬ top < bmF R S u v := by have := hbt.1; omega
      have ra1 := QA.out _ hB
      have rb1 := QB.out _ hB
      have hw4 := IntWalk.i64_in (-u) ⟨by omega, by omega⟩
      have hw5 := IntWalk.i64_in (-v) ⟨by omega, by omega⟩
      have hw6 := IntWalk.i64_in (au + av) ⟨by omega, by omega⟩
      have hw7 := IntWalk.i64_in (u + 1) ⟨by omega, by omega⟩
      generalize bmF R S u v = own at *
      clear hbt hau5 hav5
      go_wp2_with (first
        | (refine wpList_load_mid rfl 26 (.tmp 5) rfl _ 0 rfl (rwc R) _ ra1 Tryd.underlying26 rfl (rub_info' HR.out.1) ?_)
        | (refine wpList_load_mid rfl 26 (.tmp 6) rfl _ 0 rfl (rwc S) _ rb1 Tryd.underlying26 rfl (rub_info' HS.out.1) ?_))
      refine (HC.out _).mono ?_
      rintro e wm ⟨rfl, hbm⟩
      have hBm := hB.trans (hbm.mono hB.size)
      clear hbm hB ra1 rb1 HC QA QB HBE HT HSZ HQ
      by_cases ho : own = top
      · by_cases hf : au + av = sz
        · by_cases hu : u = mx
          · by_cases hv : v = my
            · have f1 : (own == top) = true := by simp [ho]
              have f2 : (own != top) = false := by simp [ho]
              have f3 := (hrk ho).1
              have f4 : (au + av == sz) = true := by simp [hf]
              have f5 := ((hrk ho).2 hf).1
              have f6 := ((hrk ho).2 hf).2 hv
              have f7 : (v == my) = true := by simp [hv]
              have f8 : (u == mx) = true := by simp [hu]
              clear hrk hat ho hu hf hv
              go_wp2
              exact ⟨⟨u + 1, by omega, by omega, rfl, hBm⟩, by simp [intOf]; omega⟩
            · have f1 : (own == top) = true := by simp [ho]
              have f2 : (own != top) = false := by simp [ho]
              have f3 := (hrk ho).1
              have f4 : (au + av == sz) = true := by simp [hf]
              have f5 := ((hrk ho).2 hf).1
              have f7 : (v == my) = false := by simp [hv]
              have f8 : (u == mx) = true := by simp [hu]
              clear hrk hat ho hu hf hv
              go_wp2
              exact ⟨⟨u + 1, by omega, by omega, rfl, hBm⟩, by simp [intOf]; omega⟩
          · by_cases hv : v = my
            · have f1 : (own == top) = true := by simp [ho]
              have f2 : (own != top) = false := by simp [ho]
              have f3 := (hrk ho).1
              have f4 : (au + av == sz) = true := by simp [hf]
              have f5 := ((hrk ho).2 hf).1
              have f6 := ((hrk ho).2 hf).2 hv
              have f7 : (v == my) = true := by simp [hv]
              have f8 : (u == mx) = false := by simp [hu]
              clear hrk hat ho hu hf hv
              go_wp2
              exact ⟨⟨u + 1, by omega, by omega, rfl, hBm⟩, by simp [intOf]; omega⟩
            · have f1 : (own == top) = true := by simp [ho]
              have f2 : (own != top) = false := by simp [ho]
              have f3 := (hrk ho).1
              have f4 : (au + av == sz) = true := by simp [hf]
              have f5 := ((hrk ho).2 hf).1
              have f7 : (v == my) = false := by simp [hv]
              have f8 : (u == mx) = false := by simp [hu]
              clear hrk hat ho hu hf hv
              go_wp2
              exact ⟨⟨u + 1, by omega, by omega, rfl, hBm⟩, by simp [intOf]; omega⟩
        · by_cases hu : u = mx
          · by_cases hv : v = my
            · have f1 : (own == top) = true := by simp [ho]
              have f2 : (own != top) = false := by simp [ho]
              have f3 := (hrk ho).1
              have f4 : (au + av == sz) = false := by simp [hf]
              have f7 : (v == my) = true := by simp [hv]
              have f8 : (u == mx) = true := by simp [hu]
              clear hrk hat ho hu hf hv
              go_wp2
              exact ⟨⟨u + 1, by omega, by omega, rfl, hBm⟩, by simp [intOf]; omega⟩
            · have f1 : (own == top) = true := by simp [ho]
              have f2 : (own != top) = false := by simp [ho]
              have f3 := (hrk ho).1
              have f4 : (au + av == sz) = false := by simp [hf]
              have f7 : (v == my) = false := by simp [hv]
              have f8 : (u == mx) = true := by simp [hu]
              clear hrk hat ho hu hf hv
              go_wp2
              exact ⟨⟨u + 1, by omega, by omega, rfl, hBm⟩, by simp [intOf]; omega⟩
          · have f1 : (own == top) = true := by simp [ho]
            have f2 : (own != top) = false := by simp [ho]
            have f3 := (hrk ho).1
            have f4 : (au + av == sz) = false := by simp [hf]
            have f8 : (u == mx) = false := by simp [hu]
            clear hrk hat ho hu hf
            go_wp2
            exact ⟨⟨u + 1, by omega, by omega, rfl, hBm⟩, by simp [intOf]; omega⟩
      · by_cases hu : u = mx
        · by_cases hv : v = my
          · exact (ho (hat hu hv)).elim
          · have f1 : (own == top) = false := by simp [ho]
            have f2 : (own != top) = true := by simp [ho]
            have f7 : (v == my) = false := by simp [hv]
            have f8 : (u == mx) = true := by simp [hu]
            clear hrk hat ho hu hv
            go_wp2
            exact ⟨⟨u + 1, by omega, by omega, rfl, hBm⟩, by simp [intOf]; omega⟩
        · have f1 : (own == top) = false := by simp [ho]
          have f2 : (own != top) = true := by simp [ho]
          have f8 : (u == mx) = false := by simp [hu]
          clear hrk hat ho hu
          go_wp2
          exact ⟨⟨u + 1, by omega, by omega, rfl, hBm⟩, by simp [intOf]; omega⟩
    · obtain rfl : u = 6 := by omega
      go_wp2
      apply HQ.out
      exact hB
end Go.Proofs.YtngondeaeipcfaaDoor

namespace Go.Proofs.YtngondeaeipcfaaDoor
open Go Go.RowKit

set_option maxRecDepth 1000000 in
set_option maxHeartbeats 32000000 in
theorem fr_outer (R S : List Nat) (hR : rok R) (hS : rok S) (mx my top sz : Int) (hin : inM mx my) (hT : top = bmF R S mx my) (hBE : ∀ x y, inM x y → bmF R S x y ≤ top ∧ (bmF R S x y = top → rkM mx my ≤ rkM x y)) (hsz : max mx (-mx) + max my (-my) = sz) (pa : Nat) (W : World) (ra : W.rangeAt pa 0 (rwc R)) (rb : W.rangeAt (pa + 1) 0 (rwc S)) (hpa : pa + 1 < W.heap.size)
    (Q : Exit → Act → World → Prop) (s0 s1 s2 s3 s4 s7 s8 s9 s13 s14 s15 s16 s17 s18 s19 s22 s23 s24 s25 s26 s27 s28 s29 s30 s31 s32 s33 s34 s35 s36 s37 s38 s39 s40 s41 s42 s43 s44 s45 s46 s47 s48 s49 s50 s51 s52 s53 s54 s55 s56 s57 s58 s59 s60 s61 s62 s63 s64 s65 s66 s67 s68 s69 s70 s71 s72 s73 s74 s75 s76 s77 s78 s79 s80 s81 s82 s83 s84 s85 s86 s87 s88 s89 s90 s91 s92 s93 s94 s95 s96 s97 s98 s99 s100 s101 s102 s103 s104 s105 s106 s107 s108 s109 s110 s111 s112 s113 s114 s115 s116 s117 s118 s119 s120 s121 s122 s123 s124 s125 s126 s127 s128 s129 s130 s131 s132 s133 s134 s135 s136 s137 s138 s139 s140 s141 s142 s143 s144 s145 s146 s147 s148 s149 s150 s151 s152 s153 s154 s155 s156 s157 s158 s159 s160 s161 s162 s163 s164 s165 s166 s167 s168 s169 s170 s171 s172 s173 s174 s175 s176 s177 s178 s179 s180 s181 s182 s183 s184 s185 s186 s187 s188 s189 s190 s191 s192 s193 s194 s195 s196 s197 s198 s199 s200 s201 s202 s203 s204 s205 s206 s207 s208 s209 s210 s211 s212 s213 s214 s215 s216 s217 s218 s219 s220 s221 s222 s223 s224 s225 s226 s227 s228 s229 s230 s231 s232 s233 s234 s235 s236 s237 s238 s239 s240 s241 s242 s243 s244 s245 s246 s247 s248 s249 s250 s251 s252 s253 s254 s255 s256 s257 s258 s259 s260 s261 s262 s263 s264 s265 s266 s267 s268 s269 s270 s271 s272 s273 s274 s275 s276 s277 s278 s279 s280 s281 s282 s283 s284 s285 s286 s287 s288 s289 s290 s291 s292 s293 s294 s295 s296 s297 s298 s299 s300 s301 s302 s303 s304 s305 s306 s307 s308 s309 s310 s311 s312 s313 s314 s315 s316 s317 s318 s319 s320 s321 s322 s323 s324 s325 s326 s327 s328 s329 s330 s331 s332 s333 s334 s335 s336 s337 s338 s339 s340 s341 s342 s343 s344 s345 s346 s347 s348 s349 s350 s351 s352 s353 s354 s355 s356 s357 s358 : Value)
    (hQ : ∀ (u4 u22 u23 u24 u25 u186 u187 u188 u189 u190 u191 u192 u193 u194 u195 u196 u197 u198 u199 u200 u201 u202 u203 u204 u205 u206 u207 u208 u209 u210 u211 u212 u213 u214 u215 u216 u217 u218 u219 u220 u221 u222 u223 u224 u225 u226 u227 u228 u229 u230 u231 u232 u233 u234 u235 u236 u237 u238 u239 u240 u241 u242 u243 u244 u245 u246 u247 u248 u249 u250 u251 u252 u253 u254 u255 u256 u257 u258 u259 u260 u261 u262 : Value) (W' : World), Below W.heap.size W W' → Q (.exit 2) ⟨#[s0, s1, s2, s3, u4, .pointer (some ⟨pa, 0, none⟩), .pointer (some ⟨pa + 1, 0, none⟩), s7, s8, s9, .int .i64 mx, .int .i64 my, .int .i64 top, s13, s14, s15, s16, s17, s18, s19, .int .i64 sz, .int .i64 6, u22, u23, u24, u25, s26, s27, s28, s29, s30, s31, s32, s33, s34, s35, s36, s37, s38, s39, s40, s41, s42, s43, s44, s45, s46, s47, s48, s49, s50, s51, s52, s53, s54, s55, s56, s57, s58, s59, s60, s61, s62, s63, s64, s65, s66, s67, s68, s69, s70, s71, s72, s73, s74, s75, s76, s77, s78, s79, s80, s81, s82, s83, s84, s85, s86, s87, s88, s89, s90, s91, s92, s93, s94, s95, s96, s97, s98, s99, s100, s101, s102, s103, s104, s105, s106, s107, s108, s109, s110, s111, s112, s113, s114, s115, s116, s117, s118, s119, s120, s121, s122, s123, s124, s125, s126, s127, s128, s129, s130, s131, s132, s133, s134, s135, s136, s137, s138, s139, s140, s141, s142, s143, s144, s145, s146, s147, s148, s149, s150, s151, s152, s153, s154, s155, s156, s157, s158, s159, s160, s161, s162, s163, s164, s165, s166, s167, s168, s169, s170, s171, s172, s173, s174, s175, s176, s177, s178, s179, s180, s181, s182, s183, s184, s185, u186, u187, u188, u189, u190, u191, u192, u193, u194, u195, u196, u197, u198, u199, u200, u201, u202, u203, u204, u205, u206, u207, u208, u209, u210, u211, u212, u213, u214, u215, u216, u217, u218, u219, u220, u221, u222, u223, u224, u225, u226, u227, u228, u229, u230, u231, u232, u233, u234, u235, u236, u237, u238, u239, u240, u241, u242, u243, u244, u245, u246, u247, u248, u249, u250, u251, u252, u253, u254, u255, u256, u257, u258, u259, u260, u261, u262, s263, s264, s265, s266, s267, s268, s269, s270, s271, s272, s273, s274, s275, s276, s277, s278, s279, s280, s281, s282, s283, s284, s285, s286, s287, s288, s289, s290, s291, s292, s293, s294, s295, s296, s297, s298, s299, s300, s301, s302, s303, s304, s305, s306, s307, s308, s309, s310, s311, s312, s313, s314, s315, s316, s317, s318, s319, s320, s321, s322, s323, s324, s325, s326, s327, s328, s329, s330, s331, s332, s333, s334, s335, s336, s337, s338, s339, s340, s341, s342, s343, s344, s345, s346, s347, s348, s349, s350, s351, s352, s353, s354, s355, s356, s357, s358], []⟩ W') :
    Code.wp Tryd.prog (frLoop 1) Q ⟨#[s0, s1, s2, s3, s4, .pointer (some ⟨pa, 0, none⟩), .pointer (some ⟨pa + 1, 0, none⟩), s7, s8, s9, .int .i64 mx, .int .i64 my, .int .i64 top, s13, s14, s15, s16, s17, s18, s19, .int .i64 sz, .int .i64 (-5), s22, s23, s24, s25, s26, s27, s28, s29, s30, s31, s32, s33, s34, s35, s36, s37, s38, s39, s40, s41, s42, s43, s44, s45, s46, s47, s48, s49, s50, s51, s52, s53, s54, s55, s56, s57, s58, s59, s60, s61, s62, s63, s64, s65, s66, s67, s68, s69, s70, s71, s72, s73, s74, s75, s76, s77, s78, s79, s80, s81, s82, s83, s84, s85, s86, s87, s88, s89, s90, s91, s92, s93, s94, s95, s96, s97, s98, s99, s100, s101, s102, s103, s104, s105, s106, s107, s108, s109, s110, s111, s112, s113, s114, s115, s116, s117, s118, s119, s120, s121, s122, s123, s124, s125, s126, s127, s128, s129, s130, s131, s132, s133, s134, s135, s136, s137, s138, s139, s140, s141, s142, s143, s144, s145, s146, s147, s148, s149, s150, s151, s152, s153, s154, s155, s156, s157, s158, s159, s160, s161, s162, s163, s164, s165, s166, s167, s168, s169, s170, s171, s172, s173, s174, s175, s176, s177, s178, s179, s180, s181, s182, s183, s184, s185, s186, s187, s188, s189, s190, s191, s192, s193, s194, s195, s196, s197, s198, s199, s200, s201, s202, s203, s204, s205, s206, s207, s208, s209, s210, s211, s212, s213, s214, s215, s216, s217, s218, s219, s220, s221, s222, s223, s224, s225, s226, s227, s228, s229, s230, s231, s232, s233, s234, s235, s236, s237, s238, s239, s240, s241, s242, s243, s244, s245, s246, s247, s248, s249, s250, s251, s252, s253, s254, s255, s256, s257, s258, s259, s260, s261, s262, s263, s264, s265, s266, s267, s268, s269, s270, s271, s272, s273, s274, s275, s276, s277, s278, s279, s280, s281, s282, s283, s284, s285, s286, s287, s288, s289, s290, s291, s292, s293, s294, s295, s296, s297, s298, s299, s300, s301, s302, s303, s304, s305, s306, s307, s308, s309, s310, s311, s312, s313, s314, s315, s316, s317, s318, s319, s320, s321, s322, s323, s324, s325, s326, s327, s328, s329, s330, s331, s332, s333, s334, s335, s336, s337, s338, s339, s340, s341, s342, s343, s344, s345, s346, s347, s348, s349, s350, s351, s352, s353, s354, s355, s356, s357, s358], []⟩ W := by
  dsimp only at hQ
  have HR := hide hR
  have HS := hide hS
  have HT := hide hT
  have HBE := hide hBE
  have HSZ := hide hsz
  have HQ := hide hQ
  have HIN := hide hin
  have QA := hide (fun w' (h : Below W.heap.size W w') => rangeAt_below ra h (show pa < W.heap.size by omega))
  have QB := hide (fun w' (h : Below W.heap.size W w') => rangeAt_below rb h hpa)
  clear hR hS hT hBE hsz hQ ra rb hin
  dsimp only
  conv => arg 2; whnf
  go_loopw [21] (fun i wq => ∃ v : Int, -5 ≤ v ∧ v ≤ 6 ∧ i = .int .i64 v ∧ Below W.heap.size W wq) (fun i _ => (6 - intOf i).toNat)
  case atStart => exact ⟨-5, by omega, by omega, rfl, Below.refl _ _⟩
  case round =>
    obtain ⟨v, hv1, hv2, rfl, hB⟩ := hrel
    by_cases hlv : v ≤ 5
    · have hw8 := IntWalk.i64_in (v + 1) ⟨by omega, by omega⟩
      have hz := hB.size
      go_wp2
      refine fr_inner R S HR.out HS.out mx my top sz HIN.out HT.out HBE.out HSZ.out pa v hv1 hlv wr (QA.out _ hB) (QB.out _ hB) (by omega) _ _ _ _ _ _ _ _ _ _ _ _ _ _ _ _ _ _ _ _ _ _ _ _ _ _ _ _ _ _ _ _ _ _ _ _ _ _ _ _ _ _ _ _ _ _ _ _ _ _ _ _ _ _ _ _ _ _ _ _ _ _ _ _ _ _ _ _ _ _ _ _ _ _ _ _ _ _ _ _ _ _ _ _ _ _ _ _ _ _ _ _ _ _ _ _ _ _ _ _ _ _ _ _ _ _ _ _ _ _ _ _ _ _ _ _ _ _ _ _ _ _ _ _ _ _ _ _ _ _ _ _ _ _ _ _ _ _ _ _ _ _ _ _ _ _ _ _ _ _ _ _ _ _ _ _ _ _ _ _ _ _ _ _ _ _ _ _ _ _ _ _ _ _ _ _ _ _ _ _ _ _ _ _ _ _ _ _ _ _ _ _ _ _ _ _ _ _ _ _ _ _ _ _ _ _ _ _ _ _ _ _ _ _ _ _ _ _ _ _ _ _ _ _ _ _ _ _ _ _ _ _ _ _ _ _ _ _ _ _ _ _ _ _ _ _ _ _ _ _ _ _ _ _ _ _ _ _ _ _ _ _ _ _ _ _ _ _ _ _ _ _ _ _ _ _ _ _ _ _ _ _ _ _ _ _ _ _ _ _ _ _ _ _ _ _ _ _ _ _ _ _ _ _ _ _ _ _ _ _ _ _ _ _ _ _ _ _ _ _ _ _ _ _ _ _ _ _ _ _ _ _ _ _ _ _ _ _ _ _ _ _ _ _ _ _ _ _ _ _ _ _ ?_
      intro u4 u23 u24 u25 u190 u191 u192 u193 u194 u195 u196 u197 u198 u199 u200 u201 u202 u203 u204 u205 u206 u207 u208 u209 u210 u211 u212 u213 u214 u215 u216 u217 u218 u219 u220 u221 u222 u223 u224 u225 u226 u227 u228 u229 u230 u231 u232 u233 u234 u235 u236 u237 u238 u239 u240 u241 u242 u243 u244 u245 u246 u247 u248 u249 u250 u251 u252 u253 u254 u255 u256 u257 u258 u259 u260 u261 u262 W' hb
      have hB' := hB.trans (hb.mono hz)
      clear hb hB
      go_wp2
      exact ⟨⟨v + 1, by omega, by omega, rfl, hB'⟩, by simp [intOf]; omega⟩
    · obtain rfl : v = 6 := by omega
      go_wp2
      apply HQ.out
      exact hB
end Go.Proofs.YtngondeaeipcfaaDoor
