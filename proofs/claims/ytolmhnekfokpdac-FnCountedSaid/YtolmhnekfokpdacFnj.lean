/- The law of counts: sums compared, and more riffles. -/
import Derived.Test.YtolmhnekfokpdacFne
import Derived.Test.YtolmhnekfokpdacFnh
import Derived.RegionTactic
import Derived.BigQuiet
import Derived.Deep.DeepCutAuto
import Derived.Deep.CutBlock
set_option linter.unusedVariables false
namespace Go.Proofs.Ytolmhnekfokpdac
open Go.RowKit Fl
attribute [local go_sem] Oper.semAt_some
set_option maxRecDepth 1000000 in
set_option maxHeartbeats 16000000 in
theorem stageB3 (gs : List Int) (v v2 : Value) (n t b2 o2 cap2 : Nat) (w wc : World) (s2 s3 s4 s7 s8 s10 s13 s15 s17 s21 s22 s23 s24 s25 s26 s27 s28 s29 s30 s31 s32 s33 s34 s35 s36 s37 s38 s39 s40 s41 s42 s43 s44 s45 s46 s47 s48 s49 s50 s51 s52 s53 s54 s55 s56 s57 s58 s59 s60 s61 s62 s63 s64 s65 s66 s67 s68 s69 s70 s71 s72 s73 s74 s75 s76 s77 s78 s79 s80 s81 s82 s83 s84 s85 s86 s87 s88 s89 s90 s91 s92 s93 s94 s95 s96 s97 s98 s99 s100 s101 s102 s103 s104 s105 s106 s107 s108 s109 s110 s111 s112 s113 s114 s115 s116 s117 s118 s119 s120 s121 s122 s123 s124 s125 s126 s127 s128 s129 s130 s131 s132 s133 s134 s135 s136 s137 s138 s139 s140 s141 s142 s143 s144 s145 s146 s147 s148 s149 s150 s151 s152 s153 s154 s155 s156 s157 s158 s159 s160 s161 s162 s163 s164 s165 s166 s167 s168 s169 s170 s171 s172 s173 s174 s175 s176 s177 s178 s179 s180 s181 s182 s183 s184 s185 s186 s187 s188 s189 s190 s191 s192 s193 s194 s195 s196 s197 s198 s199 s200 s201 s202 s203 s204 s205 s206 s207 s208 s209 s210 s211 s212 s213 s214 s215 s216 s217 s218 s219 s220 s221 s222 s223 s224 s225 s226 s227 s228 s229 s230 s231 s232 s233 s234 s235 s236 s237 s238 s239 s240 s241 s242 s243 s244 s245 s246 s247 s248 s249 s250 s251 s252 s253 s254 s255 s256 s257 s258 s259 s260 s261 s262 s263 s264 s265 s266 s267 s268 s269 s270 s271 s272 s273 s274 s275 s276 s277 s278 s279 s280 s281 s282 s283 s284 s285 s286 s287 s288 s289 s290 s291 s292 s293 s294 s295 s296 s297 s298 s299 s300 s301 s302 s303 s304 s305 s306 s307 s308 s309 s310 s311 s312 s313 s314 s315 s316 s317 s318 s319 s320 s321 s322 s323 s324 s325 s326 s327 s328 s329 s330 s331 s332 s333 s334 s335 s336 s337 s338 s339 s340 s341 s342 s343 s344 s345 s346 s347 s348 s349 s350 s351 s352 s353 s354 s355 s356 s357 s358 s359 s360 s361 s362 s363 s364 s365 s366 s367 s368 s369 s370 s371 s372 s373 s374 s375 s376 s377 s378 s379 s380 s381 s382 s383 s384 s385 s386 s387 s388 s389 s390 s391 s392 s393 s394 s395 s396 s397 s398 s399 s400 s401 s402 s403 s404 s405 s406 s407 s408 s409 s410 s411 s412 s413 s414 s415 s416 s417 s418 : Value) (K K2 : Act → World → Prop)
    (hK : ∀ a z, Code.wp Try.prog (tailN 18 fnBody) (bodyPost Try.prog Try.f6 fun e w' => e = Ending.returned (Value.bool true) ∧ Below w.heap.size w w') a z → K a z)
    (hK2 : ∀ a z, Code.wp Try.prog (sndC (headN 17 fnBody)) (Exit.then K (bodyPost Try.prog Try.f6 fun e w' => e = Ending.returned (Value.bool true) ∧ Below w.heap.size w w')) a z → K2 a z)
    (HA : Hid (∀ (z : World), Below w.heap.size w z → ∀ (k n : Nat), 1 ≤ n → n ≤ 1000000 → k ≤ 1000 → Calls Try.prog 23 #[v2, .int .i64 (k : Int), .int .i64 (n : Int)] z fun e w' => e = .returned (.int .i64 ((r8V gs k n : Nat) : Int)) ∧ z = w')) (hb0 : Below w.heap.size w wc) (hn1 : 1 ≤ n) (hn9 : n < 9) (ht1 : 1 ≤ t) (ht5 : t < 5) (hb2 : b2 < wc.heap.size) (hc2 : n + 1 ≤ cap2) (HC2 : Hid (∀ i, i < n + 1 → wc.cell? ⟨b2, o2 + i, none⟩ = some (.int .i64 ((res_MatchCounts (n : Int)).getD i 0)))) :
    Code.wp Try.prog (fstC (headN 17 fnBody)) (Exit.then K2 (Exit.then K (bodyPost Try.prog Try.f6 fun e w' => e = Ending.returned (Value.bool true) ∧ Below w.heap.size w w'))) ⟨#[v, v2, s2, s3, s4, .int .i64 (n : Int), .int .i64 (t : Int), s7, s8, .slice (some ⟨b2, o2, none⟩) (n + 1) cap2, s10, .int .i64 (res_FarFromEven (n : Int) (t : Int)), .int .i64 (res2_FarFromEven (n : Int) (t : Int)), s13, .int .i64 ((fct n : Nat) : Int), s15, .int .i64 (pw2I (t * n)), s17, .int .i64 ((fct n : Nat) : Int), .int .i64 (pw2I (t * n)), .int .i64 ((fct n : Nat) : Int), s21, s22, s23, s24, s25, s26, s27, s28, s29, s30, s31, s32, s33, s34, s35, s36, s37, s38, s39, s40, s41, s42, s43, s44, s45, s46, s47, s48, s49, s50, s51, s52, s53, s54, s55, s56, s57, s58, s59, s60, s61, s62, s63, s64, s65, s66, s67, s68, s69, s70, s71, s72, s73, s74, s75, s76, s77, s78, s79, s80, s81, s82, s83, s84, s85, s86, s87, s88, s89, s90, s91, s92, s93, s94, s95, s96, s97, s98, s99, s100, s101, s102, s103, s104, s105, s106, s107, s108, s109, s110, s111, s112, s113, s114, s115, s116, s117, s118, s119, s120, s121, s122, s123, s124, s125, s126, s127, s128, s129, s130, s131, s132, s133, s134, s135, s136, s137, s138, s139, s140, s141, s142, s143, s144, s145, s146, s147, s148, s149, s150, s151, s152, s153, s154, s155, s156, s157, s158, s159, s160, s161, s162, s163, s164, s165, s166, s167, s168, s169, s170, s171, s172, s173, s174, s175, s176, s177, s178, s179, s180, s181, s182, s183, s184, s185, s186, s187, s188, s189, s190, s191, s192, s193, s194, s195, s196, s197, s198, s199, s200, s201, s202, s203, s204, s205, s206, s207, s208, s209, s210, s211, s212, s213, s214, s215, s216, s217, s218, s219, s220, s221, s222, s223, s224, s225, s226, s227, s228, s229, s230, s231, s232, s233, s234, s235, s236, s237, s238, s239, s240, s241, s242, s243, s244, s245, s246, s247, s248, s249, s250, s251, s252, s253, s254, s255, s256, s257, s258, s259, s260, s261, s262, s263, s264, s265, s266, s267, s268, s269, s270, s271, s272, s273, s274, s275, s276, s277, s278, s279, s280, s281, s282, s283, s284, s285, s286, s287, s288, s289, s290, s291, s292, s293, s294, s295, s296, s297, s298, s299, s300, s301, s302, s303, s304, s305, s306, s307, s308, s309, s310, s311, s312, s313, s314, s315, s316, s317, s318, s319, s320, s321, s322, s323, s324, s325, s326, s327, s328, s329, s330, s331, s332, s333, s334, s335, s336, s337, s338, s339, s340, s341, s342, s343, s344, s345, s346, s347, s348, s349, s350, s351, s352, s353, s354, s355, s356, s357, s358, s359, s360, s361, s362, s363, s364, s365, s366, s367, s368, s369, s370, s371, s372, s373, s374, s375, s376, s377, s378, s379, s380, s381, s382, s383, s384, s385, s386, s387, s388, s389, s390, s391, s392, s393, s394, s395, s396, s397, s398, s399, s400, s401, s402, s403, s404, s405, s406, s407, s408, s409, s410, s411, s412, s413, s414, s415, s416, s417, s418], []⟩ wc := by
  conv at hK => enter [a, z, 1, 2]; whnf
  conv at hK2 => enter [a, z, 1, 2]; whnf
  conv => arg 2; whnf
  have HB0 := Lib.hid hb0
  clear hb0
  obtain ⟨a1, a2, a3, a4, a5, a6, a7, a8, a9, a10, a11, a12, a13, a14, a15⟩ := cnt_facts n t hn9 hn1 ht5 ht1
  have c1 := HC2.out n (by omega)
  rw [a14] at c1
  have A15 := Lib.hid a15
  clear a1 a2 a3 a4 a5 a9 a11 a12 a13 a14 a15
  dsimp only
  go_upto_region 38 with fail
  go_cut [265] (fun s wx => s = .bool false ∧ wx = wc)
  case first =>
    by_cases hn2 : 1 < n
    · have c2 := HC2.out (n - 1) (by omega)
      rw [A15.out hn2] at c2
      obtain ⟨y, hy⟩ : ∃ y, y = n - 1 := ⟨_, rfl⟩
      rw [← hy] at c2
      have hyi : (n : Int) - 1 = (y : Int) := by omega
      have hyn : y < n + 1 := by omega
      clear hy
      go_wp2_with fail
      go_meet
      exact ⟨rfl, rfl⟩
    · obtain rfl : n = 1 := by omega
      go_wp2_with fail
      go_meet
      exact ⟨rfl, rfl⟩
  case rest =>
    obtain ⟨rfl, rfl⟩ := hcut
    clear c1
    by_cases ht4 : t < 4
    · have H3 := Lib.hid (fun z => impl_FarFromEven (n : Int) (by omega) (by omega) ((t : Int) + 1) (by omega) (by omega) z)
      obtain ⟨b1, b2, b3, b4, b5, b6, b7, b8, b9, b10, -⟩ := cnt_facts n (t + 1) hn9 hn1 (by omega) (by omega)
      rw [show ((t + 1 : Nat) : Int) = (t : Int) + 1 by omega] at *
      rw [b3] at H3
      clear b1 b2 b3 b4 b5 b9
      have hflt := flt_all n hn9 hn1 t ht4 ht1
      generalize hU : res_FarFromEven (n : Int) ((t : Int) + 1) = U at *
      generalize hV : res2_FarFromEven (n : Int) ((t : Int) + 1) = V at *
      generalize hP : res_FarFromEven (n : Int) (t : Int) = P at *
      generalize hQ : res2_FarFromEven (n : Int) (t : Int) = Q at *
      have HU := Lib.hid hU
      have HV := Lib.hid hV
      have HP := Lib.hid hP
      have HQ := Lib.hid hQ
      clear hU hV hP hQ
      obtain ⟨x1, x2, x3, x4, f1, f2, f3, f4, f5⟩ := flt_facts hflt
      have F1 := Lib.hid f1
      have F2 := Lib.hid f2
      have F3 := Lib.hid f3
      have F4 := Lib.hid f4
      clear f1 f2 f3 f4 hflt
      go_wp2_with fail
      refine (H3.out _).mono ?_
      rintro e w2 ⟨rfl, hb2'⟩
      have HBz := Lib.hid (HB0.out.trans (hb2'.mono HB0.out.size))
      clear hb2'
      go_upto_region 42 with fail
      go_wp2_with fail
      refine upon_farith .mul (by simp) _ .f64 _ _ ?_
      intro r1 n1 R1
      obtain rfl := fopR_eq F1.out R1.out
      go_wp2_with fail
      refine upon_farith .mul (by simp) _ .f64 _ _ ?_
      intro r2 n2 R2
      obtain rfl := fopR_eq F2.out R2.out
      go_wp2_with fail
      refine upon_farith .mul (by simp) _ .f64 _ _ ?_
      intro r3 n3 R3
      obtain rfl := fopR_eq F3.out R3.out
      go_wp2_with fail
      refine upon_farith .add (by simp) _ .f64 _ _ ?_
      intro r4 n4 R4
      obtain rfl := fopR_eq F4.out R4.out
      have HA' := HA.out
      have HB5 := below_drewN HBz.out (n1 + n2 + n3 + n4)
      go_upto_region 44 with fail
      exact stageC gs v v2 w _ _ _ _ _ _ _ _ _ _ _ _ _ _ _ _ _ _ _ _ _ _ _ _ _ _ _ _ _ _ _ _ _ _ _ _ _ _ _ _ _ _ _ _ _ _ _ _ _ _ _ _ _ _ _ _ _ _ _ _ _ _ _ _ _ _ _ _ _ _ _ _ _ _ _ _ _ _ _ _ _ _ _ _ _ _ _ _ _ _ _ _ _ _ _ _ _ _ _ _ _ _ _ _ _ _ _ _ _ _ _ _ _ _ _ _ _ _ _ _ _ _ _ _ _ _ _ _ _ _ _ _ _ _ _ _ _ _ _ _ _ _ _ _ _ _ _ _ _ _ _ _ _ _ _ _ _ _ _ _ _ _ _ _ _ _ _ _ _ _ _ _ _ _ _ _ _ _ _ _ _ _ _ _ _ _ _ _ _ _ _ _ _ _ _ _ _ _ _ _ _ _ _ _ _ _ _ _ _ _ _ _ _ _ _ _ _ _ _ _ _ _ _ _ _ _ _ _ _ _ _ _ _ _ _ _ _ _ _ _ _ _ _ _ _ _ _ _ _ _ _ _ _ _ _ _ _ _ _ _ _ _ _ _ _ _ _ _ _ _ _ _ _ _ _ _ _ _ _ _ _ _ _ _ _ _ _ _ _ _ _ _ _ _ _ _ _ _ _ _ _ _ _ _ _ _ _ _ _ _ _ _ _ _ _ _ _ _ _ _ _ _ _ _ _ _ _ _ _ _ _ _ _ _ _ _ _ _ _ _ _ _ _ _ _ _ _ _ _ _ _ _ _ _ _ _ _ _ _ _ _ _ _ _ _ _ _ _ _ _ _ _ _ _ _ _ _ _ _ _ _ _ _ _ _ _ _ _ _ _ _ _ _ _ _ _ _ _ _ _ _ _ _ _ _ _ _ _ _ _ _ _ _ _ _ _ _ _ _ (by assumption) (Lib.hid HA') HB5
    · have HA' := HA.out
      have HB0' := HB0.out
      go_upto_region 44 with fail
      exact stageC gs v v2 w _ _ _ _ _ _ _ _ _ _ _ _ _ _ _ _ _ _ _ _ _ _ _ _ _ _ _ _ _ _ _ _ _ _ _ _ _ _ _ _ _ _ _ _ _ _ _ _ _ _ _ _ _ _ _ _ _ _ _ _ _ _ _ _ _ _ _ _ _ _ _ _ _ _ _ _ _ _ _ _ _ _ _ _ _ _ _ _ _ _ _ _ _ _ _ _ _ _ _ _ _ _ _ _ _ _ _ _ _ _ _ _ _ _ _ _ _ _ _ _ _ _ _ _ _ _ _ _ _ _ _ _ _ _ _ _ _ _ _ _ _ _ _ _ _ _ _ _ _ _ _ _ _ _ _ _ _ _ _ _ _ _ _ _ _ _ _ _ _ _ _ _ _ _ _ _ _ _ _ _ _ _ _ _ _ _ _ _ _ _ _ _ _ _ _ _ _ _ _ _ _ _ _ _ _ _ _ _ _ _ _ _ _ _ _ _ _ _ _ _ _ _ _ _ _ _ _ _ _ _ _ _ _ _ _ _ _ _ _ _ _ _ _ _ _ _ _ _ _ _ _ _ _ _ _ _ _ _ _ _ _ _ _ _ _ _ _ _ _ _ _ _ _ _ _ _ _ _ _ _ _ _ _ _ _ _ _ _ _ _ _ _ _ _ _ _ _ _ _ _ _ _ _ _ _ _ _ _ _ _ _ _ _ _ _ _ _ _ _ _ _ _ _ _ _ _ _ _ _ _ _ _ _ _ _ _ _ _ _ _ _ _ _ _ _ _ _ _ _ _ _ _ _ _ _ _ _ _ _ _ _ _ _ _ _ _ _ _ _ _ _ _ _ _ _ _ _ _ _ _ _ _ _ _ _ _ _ _ _ _ _ _ _ _ _ _ _ _ _ _ _ _ _ _ _ _ _ _ _ _ _ _ _ _ _ _ _ _ _ (by assumption) (Lib.hid HA') HB0'
end Go.Proofs.Ytolmhnekfokpdac
