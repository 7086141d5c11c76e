/- The law of purses: its walk. -/
import Derived.Test.YticocfoheenmdaaPuB
import Derived.Test.YticocfoheenmdaaPuC
import Derived.Test.YticocfoheenmdaaPuD
import Derived.Test.YticocfoheenmdaaPuL
import Derived.Test.YticocfoheenmdaaPuM
import Derived.Test.YticocfoheenmdaaPuJ
import Derived.Test.YticocfoheenmdaaQc
import Derived.Test.YticocfoheenmdaaFo
set_option linter.unusedVariables false
namespace Go.Proofs.Yticocfoheenmdaa
open Go.RowKit Fl Ieee

theorem tab_all (a u p q : Nat) (ha : 1 ≤ a) (ha2 : a ≤ 10) (hu : u ≤ a) (hp : 1 ≤ p) (hpq : p < q) (hq : q ≤ 10) : tabB a u p q = true := by
  obtain ⟨p', rfl⟩ : ∃ p', p = p' + 1 := ⟨p - 1, by omega⟩
  obtain ⟨q', rfl⟩ : ∃ q', q = q' + 2 := ⟨q - 2, by omega⟩
  obtain rfl | rfl | rfl | rfl | rfl | rfl | rfl | rfl | rfl | rfl : a = 1 ∨ a = 2 ∨ a = 3 ∨ a = 4 ∨ a = 5 ∨ a = 6 ∨ a = 7 ∨ a = 8 ∨ a = 9 ∨ a = 10 := by omega
  · exact tab_1 u (by omega) q' (by omega) p' (by omega)
  · exact tab_2 u (by omega) q' (by omega) p' (by omega)
  · exact tab_3 u (by omega) q' (by omega) p' (by omega)
  · exact tab_4 u (by omega) q' (by omega) p' (by omega)
  · exact tab_5 u (by omega) q' (by omega) p' (by omega)
  · exact tab_6 u (by omega) q' (by omega) p' (by omega)
  · exact tab_7 u (by omega) q' (by omega) p' (by omega)
  · exact tab_8 u (by omega) q' (by omega) p' (by omega)
  · exact tab_9 u (by omega) q' (by omega) p' (by omega)
  · exact tab_10 u (by omega) q' (by omega) p' (by omega)
theorem ru_facts (a u p q : Nat) (ha : 1 ≤ a) (ha2 : a ≤ 10) (hu : u ≤ a) (hp : 1 ≤ p) (hpq : p < q) (hq : q ≤ 10) :
    (1 ≤ ruB a u p q ∧ ruB a u p q ≤ 100000000000) ∧ (0 ≤ ruA a u p q ∧ ruA a u p q ≤ ruB a u p q) ∧ ruB a (a - u) (q - p) q = ruB a u p q ∧ ruA a u p q + ruA a (a - u) (q - p) q = ruB a u p q ∧ (2 * p = q → ruA a u p q * (a : Int) = ruB a u p q * (u : Int)) ∧
    ∃ f1 S, floatBits .quo .f64 (floatOfInt .f64 (ruA a u p q)) (floatOfInt .f64 (ruB a u p q)) = some f1 ∧ floatBits .add .f64 f1 4517329193108106637 = some S ∧
      ∀ t, t < 10 → sumI (fun k => puF (u : Int) (a : Int) (p : Int) (q : Int) t (k : Int)) (a + 1) = pwI (q : Int) t ∧ pwI (q : Int) t ≤ 10000000000 ∧
        ∃ r, floatBits .quo .f64 (floatOfInt .f64 (puF (u : Int) (a : Int) (p : Int) (q : Int) t (a : Int))) (floatOfInt .f64 (pwI (q : Int) t)) = some r ∧ (FloatKind.f64.format.order r S == some .gt) = false := by
  have h := tab_all a u p q ha ha2 hu hp hpq hq
  unfold tabB at h
  obtain ⟨h1, h2⟩ := Bool.and_eq_true_iff.1 h
  unfold ruK at h1
  simp only [Bool.and_eq_true, decide_eq_true_eq, Bool.or_eq_true] at h1
  obtain ⟨⟨⟨⟨⟨⟨⟨⟨k1, k2⟩, k3⟩, k4⟩, k5⟩, k6⟩, k7⟩, k8⟩, k9⟩ := h1
  obtain ⟨f1, e1⟩ := Option.isSome_iff_exists.1 k8
  have e1' : fop .quo .f64 (floatOfInt .f64 (ruA a u p q)) (floatOfInt .f64 (ruB a u p q)) = f1 := by unfold fop; rw [e1]; rfl
  obtain ⟨S, e2⟩ := Option.isSome_iff_exists.1 k9
  have hS : ruS a u p q = S := by unfold ruS; unfold fop at e2 ⊢; rw [e2]; rfl
  rw [e1'] at e2
  refine ⟨⟨k1, k2⟩, ⟨k3, k4⟩, k5, k6, fun e => k7.elim (fun n => absurd e n) id, f1, S, e1, e2, fun t ht => ?_⟩
  have h3 := chkT_at a u p q _ 10 0 t h2 ht
  rw [Nat.zero_add] at h3
  unfold chkQ at h3
  simp only [Bool.and_eq_true, decide_eq_true_eq, beq_iff_eq] at h3
  obtain ⟨⟨g1, g2⟩, g3⟩ := h3
  have e3 := rowP_sum a u p q ha hpq t
  rw [g1, pwN_I] at e3
  have e4 := pwN_I q t
  refine ⟨e3.symm, by omega, ?_⟩
  unfold quoB at g3
  rw [(rowP_pu a u p q ha hpq t).2.1, pwN_I] at g3
  cases e5 : floatBits .quo .f64 (floatOfInt .f64 (puF (u : Int) (a : Int) (p : Int) (q : Int) t (a : Int))) (floatOfInt .f64 (pwI (q : Int) t)) with
  | none => rw [e5] at g3; cases g3
  | some r =>
    rw [e5, hS] at g3
    unfold gtP at g3
    exact ⟨r, rfl, by simpa using g3⟩
attribute [local go_sem] Oper.semAt_some


theorem run_conv64 (u v : Nat) (h : floatToFloatBits .f32 u .f64 = some v) : True := trivial

set_option maxRecDepth 1000000 in
set_option maxHeartbeats 16000000 in
theorem stageA (fs gs : List Int) (v v2 : Value) (a u q p tt t0 k0 dd p9 f1 S : Nat) (RA RB : Int) (w wr : World) (s2 s3 s4 s11 s12 s13 s14 s15 s16 s17 s18 s19 s20 s21 s22 s23 s24 s25 s26 s27 s28 s29 s30 s31 s32 s33 s34 s35 s36 s37 s38 s39 s40 s41 s42 s43 s44 s45 s46 s47 s48 s49 s50 s51 s52 s53 s54 s55 s56 s57 s58 s59 s60 s61 s62 s63 s64 s65 s66 s67 s68 s69 s70 s71 s72 s73 s74 s75 s76 s77 s78 s79 s80 s81 s82 s83 s84 s85 s86 s87 s88 s89 s90 s91 s92 s93 s94 s95 s96 s97 s98 s99 s100 s101 s102 s103 s104 s105 s106 s107 s108 s109 s110 s111 s112 s113 s114 s115 s116 s117 s118 s119 s120 s121 s122 s123 s124 s125 s126 s127 s128 s129 s130 s131 s132 s133 s134 s135 s136 s137 s138 s139 s140 s141 s142 s143 s144 s145 s146 s147 s148 s149 s150 s151 s152 s153 s154 s155 s156 s157 s158 s159 s160 s161 s162 s163 s164 s165 s166 s167 s168 s169 s170 s171 s172 s173 s174 s175 s176 s177 s178 s179 s180 s181 s182 s183 s184 s185 s186 s187 s188 s189 s190 s191 s192 s193 s194 s195 s196 s197 s198 s199 s200 s201 s202 s203 s204 s205 s206 s207 s208 s209 s210 s211 s212 s213 s214 s215 s216 s217 s218 s219 s220 s221 s222 s223 s224 s225 s226 s227 s228 s229 s230 s231 s232 s233 s234 s235 s236 s237 s238 s239 s240 s241 s242 s243 s244 s245 s246 s247 s248 s249 s250 s251 s252 s253 s254 s255 s256 s257 s258 s259 s260 s261 s262 s263 s264 s265 s266 s267 s268 s269 s270 s271 s272 s273 s274 s275 s276 s277 s278 s279 s280 s281 s282 s283 s284 s285 s286 s287 s288 s289 s290 s291 s292 s293 s294 s295 s296 s297 s298 s299 s300 s301 s302 s303 s304 s305 s306 s307 s308 s309 s310 s311 s312 s313 s314 s315 s316 s317 s318 s319 s320 s321 s322 s323 s324 s325 s326 s327 s328 s329 s330 s331 s332 s333 s334 s335 s336 s337 s338 s339 s340 s341 s342 s343 s344 s345 s346 s347 s348 s349 s350 s351 s352 s353 s354 s355 s356 s357 s358 s359 s360 s361 s362 s363 s364 s365 s366 s367 s368 s369 s370 s371 s372 s373 s374 s375 s376 s377 s378 s379 s380 s381 s382 s383 s384 s385 s386 s387 s388 s389 s390 s391 s392 s393 s394 s395 s396 s397 s398 s399 s400 s401 s402 s403 s404 s405 s406 s407 s408 s409 s410 s411 s412 s413 s414 s415 s416 s417 s418 s419 s420 s421 s422 s423 s424 s425 s426 s427 s428 s429 s430 s431 s432 s433 s434 s435 s436 s437 s438 s439 s440 s441 s442 s443 s444 s445 s446 s447 s448 s449 s450 s451 s452 s453 s454 s455 s456 s457 s458 s459 s460 s461 s462 s463 s464 s465 s466 s467 s468 s469 s470 s471 s472 s473 s474 s475 s476 s477 s478 s479 : Value) (K : Act → World → Prop)
    (hK : ∀ a z, Code.wp Try.prog (tailN 10 fnBody) (bodyPost Try.prog Try.f4 fun e w' => e = Ending.returned (Value.bool true) ∧ Below w.heap.size w w') a z → K a z)
    (hW : Below w.heap.size w wr) (ha : 1 ≤ a) (ha2 : a ≤ 10) (hu : u ≤ a) (hp : 1 ≤ p) (hpq : p < q) (hq : q ≤ 10) (htt : tt < 10)
    (e1 : floatBits .quo .f64 (floatOfInt .f64 RA) (floatOfInt .f64 RB) = some f1) (e2 : floatBits .add .f64 f1 4517329193108106637 = some S)
    (hall : sumI (fun k => puF (u : Int) (a : Int) (p : Int) (q : Int) tt (k : Int)) (a + 1) = pwI (q : Int) tt ∧ pwI (q : Int) tt ≤ 10000000000 ∧
        ∃ r, floatBits .quo .f64 (floatOfInt .f64 (puF (u : Int) (a : Int) (p : Int) (q : Int) tt (a : Int))) (floatOfInt .f64 (pwI (q : Int) tt)) = some r ∧ (FloatKind.f64.format.order r S == some .gt) = false)
    (H44 : Hid (∀ z, Below w.heap.size w z → Calls Try.prog 11 #[v2, .int .i64 ((44 : Nat) : Int), .int .i64 ((10 : Nat) : Int)] z fun e w' => e = .returned (.int .i64 ((tt : Nat) : Int)) ∧ z = w'))
    (ht0 : t0 < 40) (hk0 : k0 < 10) (hdd : dd < 14) (hp9 : p9 < 9)
    (H45 : Hid (∀ z, Below w.heap.size w z → Calls Try.prog 11 #[v2, .int .i64 ((45 : Nat) : Int), .int .i64 ((40 : Nat) : Int)] z fun e w' => e = .returned (.int .i64 ((t0 : Nat) : Int)) ∧ z = w'))
    (H46 : Hid (∀ z n, 1 ≤ n → n ≤ 40 → Below w.heap.size w z → Calls Try.prog 11 #[v2, .int .i64 ((46 : Nat) : Int), .int .i64 ((n : Nat) : Int)] z fun e w' => e = .returned (.int .i64 ((r8V gs 46 n : Nat) : Int)) ∧ z = w'))
    (H47 : Hid (∀ z, Below w.heap.size w z → Calls Try.prog 11 #[v2, .int .i64 ((47 : Nat) : Int), .int .i64 ((10 : Nat) : Int)] z fun e w' => e = .returned (.int .i64 ((k0 : Nat) : Int)) ∧ z = w'))
    (H0 : Hid (∀ z, Below w.heap.size w z → Calls Try.prog 11 #[v, .int .i64 ((0 : Nat) : Int), .int .i64 ((14 : Nat) : Int)] z fun e w' => e = .returned (.int .i64 ((dd : Nat) : Int)) ∧ z = w'))
    (H1 : Hid (∀ z, Below w.heap.size w z → Calls Try.prog 11 #[v, .int .i64 ((1 : Nat) : Int), .int .i64 ((9 : Nat) : Int)] z fun e w' => e = .returned (.int .i64 ((p9 : Nat) : Int)) ∧ z = w')) :
    Code.wp Try.prog (headN 9 fnBody) (Exit.then K (bodyPost Try.prog Try.f4 fun e w' => e = Ending.returned (Value.bool true) ∧ Below w.heap.size w w')) ⟨#[v, v2, s2, s3, s4, .int .i64 (a : Int), .int .i64 (u : Int), .int .i64 (q : Int), .int .i64 (p : Int), .int .i64 RA, .int .i64 RB, s11, s12, s13, s14, s15, s16, s17, s18, s19, s20, s21, s22, s23, s24, s25, s26, s27, s28, s29, s30, s31, s32, s33, s34, s35, s36, s37, s38, s39, s40, s41, s42, s43, s44, s45, s46, s47, s48, s49, s50, s51, s52, s53, s54, s55, s56, s57, s58, s59, s60, s61, s62, s63, s64, s65, s66, s67, s68, s69, s70, s71, s72, s73, s74, s75, s76, s77, s78, s79, s80, s81, s82, s83, s84, s85, s86, s87, s88, s89, s90, s91, s92, s93, s94, s95, s96, s97, s98, s99, s100, s101, s102, s103, s104, s105, s106, s107, s108, s109, s110, s111, s112, s113, s114, s115, s116, s117, s118, s119, s120, s121, s122, s123, s124, s125, s126, s127, s128, s129, s130, s131, s132, s133, s134, s135, s136, s137, s138, s139, s140, s141, s142, s143, s144, s145, s146, s147, s148, s149, s150, s151, s152, s153, s154, s155, s156, s157, s158, s159, s160, s161, s162, s163, s164, s165, s166, s167, s168, s169, s170, s171, s172, s173, s174, s175, s176, s177, s178, s179, s180, s181, s182, s183, s184, s185, s186, s187, s188, s189, s190, s191, s192, s193, s194, s195, s196, s197, s198, s199, s200, s201, s202, s203, s204, s205, s206, s207, s208, s209, s210, s211, s212, s213, s214, s215, s216, s217, s218, s219, s220, s221, s222, s223, s224, s225, s226, s227, s228, s229, s230, s231, s232, s233, s234, s235, s236, s237, s238, s239, s240, s241, s242, s243, s244, s245, s246, s247, s248, s249, s250, s251, s252, s253, s254, s255, s256, s257, s258, s259, s260, s261, s262, s263, s264, s265, s266, s267, s268, s269, s270, s271, s272, s273, s274, s275, s276, s277, s278, s279, s280, s281, s282, s283, s284, s285, s286, s287, s288, s289, s290, s291, s292, s293, s294, s295, s296, s297, s298, s299, s300, s301, s302, s303, s304, s305, s306, s307, s308, s309, s310, s311, s312, s313, s314, s315, s316, s317, s318, s319, s320, s321, s322, s323, s324, s325, s326, s327, s328, s329, s330, s331, s332, s333, s334, s335, s336, s337, s338, s339, s340, s341, s342, s343, s344, s345, s346, s347, s348, s349, s350, s351, s352, s353, s354, s355, s356, s357, s358, s359, s360, s361, s362, s363, s364, s365, s366, s367, s368, s369, s370, s371, s372, s373, s374, s375, s376, s377, s378, s379, s380, s381, s382, s383, s384, s385, s386, s387, s388, s389, s390, s391, s392, s393, s394, s395, s396, s397, s398, s399, s400, s401, s402, s403, s404, s405, s406, s407, s408, s409, s410, s411, s412, s413, s414, s415, s416, s417, s418, s419, s420, s421, s422, s423, s424, s425, s426, s427, s428, s429, s430, s431, s432, s433, s434, s435, s436, s437, s438, s439, s440, s441, s442, s443, s444, s445, s446, s447, s448, s449, s450, s451, s452, s453, s454, s455, s456, s457, s458, s459, s460, s461, s462, s463, s464, s465, s466, s467, s468, s469, s470, s471, s472, s473, s474, s475, s476, s477, s478, s479], []⟩ wr := by
  conv at hK => enter [a, z, 1, 2]; whnf
  conv => arg 2; whnf
  have hwz := hW.size
  obtain ⟨s1, s2, r, e3, e4⟩ := hall
  have HC := Lib.hid (fun z => impl_PurseRow (u : Int) (by omega) (by omega) (a : Int) (by omega) (by omega) (p : Int) (by omega) (by omega) (q : Int) (by omega) (by omega) (tt : Int) (by omega) (by omega) z)
  have hcc : okPR (u : Int) (a : Int) (p : Int) (q : Int) (tt : Int) := by unfold okPR; omega
  have g1 : ok_PurseRow (u : Int) (a : Int) (p : Int) (q : Int) (tt : Int) = true := decide_eq_true hcc
  have g2 : res_PurseRow (u : Int) (a : Int) (p : Int) (q : Int) (tt : Int) = tab (a + 1) (fun k => puF (u : Int) (a : Int) (p : Int) (q : Int) tt (k : Int)) := by
    unfold res_PurseRow
    rw [if_pos hcc, Int.toNat_natCast, Int.toNat_natCast]
  have g3 : res2_PurseRow (u : Int) (a : Int) (p : Int) (q : Int) (tt : Int) = pwI (q : Int) tt := by
    unfold res2_PurseRow
    rw [if_pos hcc, Int.toNat_natCast]
  rw [g1, g2, g3] at HC
  have HM := Lib.hid (fun z => impl_FairTime (u : Int) (by omega) (by omega) (a : Int) (by omega) (by omega) z)
  have hft : okFT (u : Int) (a : Int) := by unfold okFT; omega
  have g4 : ok_FairTime (u : Int) (a : Int) = true := decide_eq_true hft
  have g5 : res_FairTime (u : Int) (a : Int) = (u : Int) * ((a : Int) - (u : Int)) := if_pos hft
  rw [g4, g5] at HM
  have HS1 := Lib.hid s1
  have HN := Lib.hid (fun k => (pu_bd (u : Int) (a : Int) (p : Int) (q : Int) (by omega) (by omega) tt k).1)
  have HLe := Lib.hid (fun k (hk : k ≤ a + 1) => sumI_le (fun k => puF (u : Int) (a : Int) (p : Int) (q : Int) tt (k : Int)) (a + 1) (fun k hk => (pu_bd (u : Int) (a : Int) (p : Int) (q : Int) (by omega) (by omega) tt (k : Int)).1) k hk)
  have HSs := Lib.hid (fun k => show sumI (fun k => puF (u : Int) (a : Int) (p : Int) (q : Int) tt (k : Int)) (k + 1) = sumI (fun k => puF (u : Int) (a : Int) (p : Int) (q : Int) tt (k : Int)) k + puF (u : Int) (a : Int) (p : Int) (q : Int) tt (k : Int) from rfl)
  have HS0 := Lib.hid (show sumI (fun k => puF (u : Int) (a : Int) (p : Int) (q : Int) tt (k : Int)) 0 = 0 from rfl)
  have HT := Lib.hid (fun t (ht : t < 15) => pw_tab q (by omega) t ht)
  have HP0 := Lib.hid (show pwI (q : Int) 0 = 1 from rfl)
  have HPs := Lib.hid (fun t => show pwI (q : Int) (t + 1) = pwI (q : Int) t * (q : Int) from rfl)
  have Q1 := Lib.hid (run_ok (P := Try.prog) e1)
  have Q2 := Lib.hid (run_ok (P := Try.prog) e2)
  have Q3 := Lib.hid (run_ok (P := Try.prog) e3)
  clear hcc g1 g2 g3 hft g4 g5 s1 e1 e2 e3
  generalize sumI (fun k => puF (u : Int) (a : Int) (p : Int) (q : Int) tt (k : Int)) = SM at *
  generalize puF (u : Int) (a : Int) (p : Int) (q : Int) tt = RW at *
  generalize pwI (q : Int) = PW at *
  go_wp2_with fail
  refine (H44.out _ hW).mono ?_
  rintro e w' ⟨rfl, rfl⟩
  go_wp2_with fail
  refine (HC.out _).mono ?_
  rintro e w1 ⟨r1, rfl, h1, hb1⟩
  have HB1 := Lib.hid (hW.trans (hb1.mono hwz))
  have HR1 := Lib.hid h1.sl
  clear h1 hb1 HC
  obtain ⟨q2, c2, rfl, hx⟩ := HR1.out
  rw [tab_len] at hx ⊢
  obtain ⟨hcap, bq, oq, rfl, hbq, hcell⟩ := hx (by omega)
  have HCL := Lib.hid (fun k (hk : k < a + 1) => (hcell k hk).trans (by rw [tab_get _ _ _ hk]))
  clear hx hcell HR1
  have nk : ((a : Int) + 1 != (a : Int) + 1) = false := by simp
  go_wp2_with fail
  obtain ⟨wo, rfl⟩ : ∃ z, z = w1 := ⟨_, rfl⟩
  go_loopw [20, 21] (fun d i wz => ∃ t : Nat, t ≤ tt ∧ d = .int .i64 (PW t) ∧ i = .int .i64 (t : Int) ∧ Hid (wz = wo)) (fun _ i _ => tt - (intOf i).toNat)
  case atStart => exact ⟨0, Nat.zero_le _, by rw [HP0.out], rfl, Lib.hid rfl⟩
  case round =>
    obtain ⟨t, ht, rfl, rfl, hw⟩ := hrel
    obtain rfl := hw.out
    by_cases hlt : t < tt
    · have HE := Lib.hid (HPs.out t)
      have hbd := HT.out (t + 1) (by omega)
      rw [HE.out] at hbd
      obtain ⟨hbd0, hbd1⟩ := hbd
      clear HPs HT HCL HLe HN HSs s2 e4
      generalize PW t = Pt at *
      go_wp2
      go_roundw
      case rel => exact ⟨t + 1, by omega, by rw [HE.out], by go_num, Lib.hid (by first | trivial | rfl)⟩
      case measure => simp [intOf]; omega
    · obtain rfl : t = tt := by omega
      clear HPs HT HP0
      generalize PW t = Pt at *
      obtain ⟨wp, rfl⟩ : ∃ z, z = wr := ⟨_, rfl⟩
      go_wp2_with fail
      go_loopw [19, 22] (fun d i wz => ∃ k : Nat, k ≤ a + 1 ∧ d = .int .i64 (SM k) ∧ i = .int .i64 (k : Int) ∧ Hid (wz = wp)) (fun _ i _ => a + 1 - (intOf i).toNat)
      case atStart => exact ⟨0, Nat.zero_le _, by rw [HS0.out], rfl, Lib.hid rfl⟩
      case round =>
        obtain ⟨k, hk, rfl, rfl, hw⟩ := hrel
        obtain rfl := hw.out
        by_cases hlk : k ≤ a
        · have HE := Lib.hid (HSs.out k)
          have hb1 := HLe.out k (by omega)
          have hb2 := HLe.out (k + 1) (by omega)
          rw [HS1.out] at hb1 hb2
          rw [HE.out] at hb2
          have cc := HCL.out k (by omega)
          have hn := HN.out (k : Int)
          have dk : decide (k ≤ a) = true := decide_eq_true hlk
          obtain ⟨hb10, hb11⟩ := hb1
          obtain ⟨hb20, hb21⟩ := hb2
          have dn : decide (RW (k : Int) < 0) = false := decide_eq_false (by omega)
          clear HSs HLe HN HCL e4
          generalize RW (k : Int) = x at *
          generalize SM k = Sk at *
          go_wp2
          go_roundw
          case rel => exact ⟨k + 1, by omega, by rw [HE.out], by go_num, Lib.hid (by first | trivial | rfl)⟩
          case measure => simp [intOf]; omega
        · obtain rfl : k = a + 1 := by omega
          have dk : decide (a + 1 ≤ a) = false := decide_eq_false (by omega)
          have hS1 := HS1.out
          rw [hS1]
          have np : (Pt != Pt) = false := by simp
          have cca := HCL.out a (by omega)
          have nf : ((u : Int) * ((a : Int) - (u : Int)) != (u : Int) * ((a : Int) - (u : Int))) = false := by simp
          have f0 : 0 ≤ (u : Int) * ((a : Int) - (u : Int)) := Int.mul_nonneg (by omega) (by omega)
          have f2 : (u : Int) * ((a : Int) - (u : Int)) ≤ 100 := Int.le_trans (Int.mul_le_mul (show (u : Int) ≤ 10 by omega) (show (a : Int) - (u : Int) ≤ 10 by omega) (by omega) (by omega)) (by omega)
          have q1 := Q1.out
          have q2 := Q2.out
          have q3 := Q3.out
          clear HSs HLe HN HCL hS1 HS1 HS0 Q1 Q2 Q3
          generalize RW (a : Int) = Ra at *
          go_wp2_with fail
          refine (HM.out _).mono ?_
          rintro e w3 ⟨rfl, hb3⟩
          have HB3 := Lib.hid (HB1.out.trans (hb3.mono HB1.out.size))
          have cca3 := cell_keep hb3 cca
          clear hb3 cca HM
          go_upto_region 30 with fail
          exact stageB fs gs v v2 t0 k0 dd p9 w _ _ _ _ _ _ _ _ _ _ _ _ _ _ _ _ _ _ _ _ _ _ _ _ _ _ _ _ _ _ _ _ _ _ _ _ _ _ _ _ _ _ _ _ _ _ _ _ _ _ _ _ _ _ _ _ _ _ _ _ _ _ _ _ _ _ _ _ _ _ _ _ _ _ _ _ _ _ _ _ _ _ _ _ _ _ _ _ _ _ _ _ _ _ _ _ _ _ _ _ _ _ _ _ _ _ _ _ _ _ _ _ _ _ _ _ _ _ _ _ _ _ _ _ _ _ _ _ _ _ _ _ _ _ _ _ _ _ _ _ _ _ _ _ _ _ _ _ _ _ _ _ _ _ _ _ _ _ _ _ _ _ _ _ _ _ _ _ _ _ _ _ _ _ _ _ _ _ _ _ _ _ _ _ _ _ _ _ _ _ _ _ _ _ _ _ _ _ _ _ _ _ _ _ _ _ _ _ _ _ _ _ _ _ _ _ _ _ _ _ _ _ _ _ _ _ _ _ _ _ _ _ _ _ _ _ _ _ _ _ _ _ _ _ _ _ _ _ _ _ _ _ _ _ _ _ _ _ _ _ _ _ _ _ _ _ _ _ _ _ _ _ _ _ _ _ _ _ _ _ _ _ _ _ _ _ _ _ _ _ _ _ _ _ _ _ _ _ _ _ _ _ _ _ _ _ _ _ _ _ _ _ _ _ _ _ _ _ _ _ _ _ _ _ _ _ _ _ _ _ _ _ _ _ _ _ _ _ _ _ _ _ _ _ _ _ _ _ _ _ _ _ _ _ _ _ _ _ _ _ _ _ _ _ _ _ _ _ _ _ _ _ _ _ _ _ _ _ _ _ _ _ _ _ _ _ _ _ _ _ _ _ _ _ _ _ _ _ _ _ _ _ _ _ _ _ _ _ _ _ _ _ _ _ _ _ _ _ _ _ _ _ _ _ _ _ _ _ _ _ _ _ _ _ _ _ _ _ _ _ _ _ _ _ _ _ _ _ _ _ _ _ _ _ _ _ _ _ _ _ _ _ _ _ _ _ _ _ _ _ _ _ _ _ _ _ _ _ _ _ (by assumption) HB3.out ht0 hk0 hdd hp9 H45 H46 H47 H0 H1

set_option maxRecDepth 1000000 in
set_option maxHeartbeats 8000000 in
theorem walk_FnPurses (fs gs : List Int) (v v2 : Value) (w : World) (hl : fs.length ≤ maxLen) (hl2 : gs.length ≤ maxLen) (hbf : BsB fs) (hbs : BsB gs) (h : Sl (Value.int .u8) 0 w v fs) (h2 : Sl (Value.int .u8) 0 w v2 gs) :
    Calls Try.prog 4 #[v, v2] w fun e w' => e = .returned (.bool true) ∧ Below w.heap.size w w' := by
  have HL := Lib.hid (long8_any fs gs v v2 w hl hl2 h h2)
  by_cases hlong : (decide (48 < fs.length) || decide (48 < gs.length)) = true
  · rw [hlong] at HL
    clear hlong h h2
    go_enter Try.func4, Try.ntmps4
    go_wp2_with (first | (go_at_call 10; refine HL.out.mono ?_; rintro e w' ⟨rfl, rfl⟩))
    go_ret
    exact ⟨rfl, Below.refl _ _⟩
  · rw [Bool.not_eq_true] at hlong
    rw [hlong] at HL
    clear hlong
    have HA := Lib.hid (fun (z : World) (hz : Below w.heap.size w z) (k n : Nat) (hn : 1 ≤ n) (hn2 : n ≤ 1000000) (hk : k ≤ 1000) => at8_any gs v2 k n z hn hn2 hk hl2 hbs (h2.later hz))
    have HF := Lib.hid (fun (z : World) (hz : Below w.heap.size w z) (k n : Nat) (hn : 1 ≤ n) (hn2 : n ≤ 1000000) (hk : k ≤ 1000) => at8_any fs v k n z hn hn2 hk hl hbf (h.later hz))
    have H40 := Lib.hid (fun z hz => HA.out z hz 40 10 (by omega) (by omega) (by omega))
    have H42 := Lib.hid (fun z hz => HA.out z hz 42 9 (by omega) (by omega) (by omega))
    have H44 := Lib.hid (fun z hz => HA.out z hz 44 10 (by omega) (by omega) (by omega))
    have H45 := Lib.hid (fun z hz => HA.out z hz 45 40 (by omega) (by omega) (by omega))
    have H46 := Lib.hid (fun z n (h1 : 1 ≤ n) (h2 : n ≤ 40) hz => HA.out z hz 46 n h1 (by omega) (by omega))
    have H47 := Lib.hid (fun z hz => HA.out z hz 47 10 (by omega) (by omega) (by omega))
    have H0 := Lib.hid (fun z hz => HF.out z hz 0 14 (by omega) (by omega) (by omega))
    have H1 := Lib.hid (fun z hz => HF.out z hz 1 9 (by omega) (by omega) (by omega))
    have x40 := r8V_lt gs 40 10 (by omega)
    have x42 := r8V_lt gs 42 9 (by omega)
    have x44 := r8V_lt gs 44 10 (by omega)
    have x45 := r8V_lt gs 45 40 (by omega)
    have x47 := r8V_lt gs 47 10 (by omega)
    have x0 := r8V_lt fs 0 14 (by omega)
    have x1 := r8V_lt fs 1 9 (by omega)
    generalize r8V gs 40 10 = a0 at *
    generalize r8V gs 42 9 = q0 at *
    generalize r8V gs 44 10 = tt at *
    generalize r8V gs 45 40 = t0 at *
    generalize r8V gs 47 10 = k0 at *
    generalize r8V fs 0 14 = dd at *
    generalize r8V fs 1 9 = p9 at *
    obtain ⟨a, ha⟩ : ∃ a, a = a0 + 1 := ⟨_, rfl⟩
    obtain ⟨q, hq⟩ : ∃ q, q = q0 + 2 := ⟨_, rfl⟩
    obtain ⟨q1, hq1⟩ : ∃ q1, q1 = q0 + 1 := ⟨_, rfl⟩
    have Ea := Lib.hid (show (1 : Int) + (a0 : Int) = (a : Int) by omega)
    have Eq := Lib.hid (show (2 : Int) + (q0 : Int) = (q : Int) by omega)
    have Ea1 := Lib.hid (show (a : Int) + 1 = ((a + 1 : Nat) : Int) by omega)
    have Eq1 := Lib.hid (show (q : Int) - 1 = (q1 : Int) by omega)
    have ba1 : 1 ≤ a := by omega
    have ba2 : a ≤ 10 := by omega
    have bq1 : 2 ≤ q := by omega
    have bq2 : q ≤ 10 := by omega
    have bq3 : 1 ≤ q1 := by omega
    have bq4 : q1 < q := by omega
    have H41 := Lib.hid (fun z hz => HA.out z hz 41 (a + 1) (by omega) (by omega) (by omega))
    have H43 := Lib.hid (fun z hz => HA.out z hz 43 q1 (by omega) (by omega) (by omega))
    have x41 := r8V_lt gs 41 (a + 1) (by omega)
    have x43 := r8V_lt gs 43 q1 (by omega)
    generalize r8V gs 41 (a + 1) = u at *
    generalize r8V gs 43 q1 = p0 at *
    obtain ⟨p, hp⟩ : ∃ p, p = p0 + 1 := ⟨_, rfl⟩
    have Ep := Lib.hid (show (1 : Int) + (p0 : Int) = (p : Int) by omega)
    have bp1 : 1 ≤ p := by omega
    have bp2 : p < q := by omega
    have bu : u ≤ a := by omega
    obtain ⟨⟨f1, f2⟩, ⟨f3, f4⟩, f5, f6, f7, F1, S, e1, e2, hall⟩ := ru_facts a u p q ba1 ba2 bu bp1 bp2 bq2
    unfold ruA ruB at *
    obtain ⟨u', hu'⟩ : ∃ u', u' = a - u := ⟨_, rfl⟩
    obtain ⟨p', hp'⟩ : ∃ p', p' = q - p := ⟨_, rfl⟩
    rw [← hu', ← hp'] at f5 f6
    have Eu' := Lib.hid (show (a : Int) - (u : Int) = (u' : Int) by omega)
    have Ep' := Lib.hid (show (q : Int) - (p : Int) = (p' : Int) by omega)
    have HR1 := Lib.hid (fun z => impl_RuinChance (u : Int) (by omega) (by omega) (a : Int) (by omega) (by omega) (p : Int) (by omega) (by omega) (q : Int) (by omega) (by omega) z)
    have k1 : ok_RuinChance (u : Int) (a : Int) (p : Int) (q : Int) = true := by unfold ok_RuinChance okRC; exact decide_eq_true (by omega)
    have HR2 := Lib.hid (fun z => impl_RuinChance (u' : Int) (by omega) (by omega) (a : Int) (by omega) (by omega) (p' : Int) (by omega) (by omega) (q : Int) (by omega) (by omega) z)
    have k2 : ok_RuinChance (u' : Int) (a : Int) (p' : Int) (q : Int) = true := by unfold ok_RuinChance okRC; exact decide_eq_true (by omega)
    rw [k1] at HR1
    rw [k2, f5] at HR2
    have HALL := Lib.hid hall
    clear k1 k2 f5 ha hq hq1 hp hu' hp' hall HA HF h h2 hl hl2
    generalize res_RuinChance (u : Int) (a : Int) (p : Int) (q : Int) = RA at *
    generalize res2_RuinChance (u : Int) (a : Int) (p : Int) (q : Int) = RB at *
    generalize res_RuinChance (u' : Int) (a : Int) (p' : Int) (q : Int) = RC at *
    have HE1 := Lib.hid e1
    have HE2 := Lib.hid e2
    have dB : decide (RB < 1) = false := decide_eq_false (by omega)
    have nB : (RB != RB) = false := by simp
    have nS : (RA + RC != RB) = false := by rw [f6]; simp
    have nS2 : (RA + RC = RB) = True := eq_true f6
    have dA : decide (RA < 0) = false := decide_eq_false (by omega)
    have c0 : 0 ≤ RC ∧ RC ≤ RB := by omega
    obtain ⟨c1, c2⟩ := c0
    have HF6 := Lib.hid f6
    clear e1 e2 f6
    have z1 : 0 ≤ RA * (a : Int) := Int.mul_nonneg f3 (by omega)
    have z2 : RA * (a : Int) ≤ 1000000000000 := Int.le_trans (Int.mul_le_mul (show RA ≤ 100000000000 by omega) (show (a : Int) ≤ 10 by omega) (by omega) (by omega)) (by omega)
    have z3 : 0 ≤ RB * (u : Int) := Int.mul_nonneg (by omega) (by omega)
    have z4 : RB * (u : Int) ≤ 1000000000000 := Int.le_trans (Int.mul_le_mul f2 (show (u : Int) ≤ 10 by omega) (by omega) (by omega)) (by omega)
    have HF7 := Lib.hid f7
    clear f7
    go_enter Try.func4, Try.ntmps4
    go_wp2_with fail
    refine HL.out.mono ?_
    rintro e w' ⟨rfl, rfl⟩
    go_wp2_with fail
    refine (H40.out _ (Below.refl _ _)).mono ?_
    rintro e w' ⟨rfl, rfl⟩
    go_wp2_with fail
    rw [Ea.out, Ea1.out]
    refine (H41.out _ (Below.refl _ _)).mono ?_
    rintro e w' ⟨rfl, rfl⟩
    go_wp2_with fail
    refine (H42.out _ (Below.refl _ _)).mono ?_
    rintro e w' ⟨rfl, rfl⟩
    go_upto_region 6 with fail
    rw [Eq.out]
    go_wp2_with fail
    rw [Eq1.out]
    refine (H43.out _ (Below.refl _ _)).mono ?_
    rintro e w' ⟨rfl, rfl⟩
    go_wp2_with fail
    rw [Ep.out]
    (with_reducible refine (HR1.out _).mono ?_)
    rintro e w1 ⟨rfl, hb1⟩
    have HB1 := Lib.hid hb1
    clear hb1 HR1
    go_wp2_with fail
    rw [Eu'.out, Ep'.out]
    (with_reducible refine (HR2.out _).mono ?_)
    rintro e w2 ⟨rfl, hb2⟩
    have HB2 := Lib.hid (HB1.out.trans (hb2.mono HB1.out.size))
    clear hb2 HR2 HB1
    by_cases h2q : 2 * p = q
    · have g7 := HF7.out h2q
      have b1 : (2 * (p : Int) == (q : Int)) = true := by rw [beq_iff_eq]; omega
      have b2 : (2 * (p : Int) = (q : Int)) = True := eq_true (by omega)
      have b3 : (2 * p = q) = True := eq_true h2q
      have nM : (RA * (a : Int) != RB * (u : Int)) = false := by rw [g7]; simp
      have nM2 : (RA * (a : Int) = RB * (u : Int)) = True := eq_true g7
      have HG7 := Lib.hid g7
      have HQ := Lib.hid h2q
      clear g7 h2q
      go_upto_region 11 with fail
      exact stageA fs gs v v2 a u q p tt t0 k0 dd p9 F1 S RA RB w _ _ _ _ _ _ _ _ _ _ _ _ _ _ _ _ _ _ _ _ _ _ _ _ _ _ _ _ _ _ _ _ _ _ _ _ _ _ _ _ _ _ _ _ _ _ _ _ _ _ _ _ _ _ _ _ _ _ _ _ _ _ _ _ _ _ _ _ _ _ _ _ _ _ _ _ _ _ _ _ _ _ _ _ _ _ _ _ _ _ _ _ _ _ _ _ _ _ _ _ _ _ _ _ _ _ _ _ _ _ _ _ _ _ _ _ _ _ _ _ _ _ _ _ _ _ _ _ _ _ _ _ _ _ _ _ _ _ _ _ _ _ _ _ _ _ _ _ _ _ _ _ _ _ _ _ _ _ _ _ _ _ _ _ _ _ _ _ _ _ _ _ _ _ _ _ _ _ _ _ _ _ _ _ _ _ _ _ _ _ _ _ _ _ _ _ _ _ _ _ _ _ _ _ _ _ _ _ _ _ _ _ _ _ _ _ _ _ _ _ _ _ _ _ _ _ _ _ _ _ _ _ _ _ _ _ _ _ _ _ _ _ _ _ _ _ _ _ _ _ _ _ _ _ _ _ _ _ _ _ _ _ _ _ _ _ _ _ _ _ _ _ _ _ _ _ _ _ _ _ _ _ _ _ _ _ _ _ _ _ _ _ _ _ _ _ _ _ _ _ _ _ _ _ _ _ _ _ _ _ _ _ _ _ _ _ _ _ _ _ _ _ _ _ _ _ _ _ _ _ _ _ _ _ _ _ _ _ _ _ _ _ _ _ _ _ _ _ _ _ _ _ _ _ _ _ _ _ _ _ _ _ _ _ _ _ _ _ _ _ _ _ _ _ _ _ _ _ _ _ _ _ _ _ _ _ _ _ _ _ _ _ _ _ _ _ _ _ _ _ _ _ _ _ _ _ _ _ _ _ _ _ _ _ _ _ _ _ _ _ _ _ _ _ _ _ _ _ _ _ _ _ _ _ _ _ _ _ _ _ _ _ _ _ _ _ _ _ _ _ _ _ _ _ _ _ _ _ _ _ _ _ _ _ _ _ _ _ _ _ _ _ _ _ (by assumption) HB2.out ba1 ba2 bu bp1 bp2 bq2 x44 HE1.out HE2.out (HALL.out tt x44) H44 x45 x47 x0 x1 H45 H46 H47 H0 H1
    · have b1 : (2 * (p : Int) == (q : Int)) = false := by rw [beq_eq_false_iff_ne]; omega
      have b2 : (2 * (p : Int) = (q : Int)) = False := eq_false (by omega)
      have b3 : (2 * p = q) = False := eq_false h2q
      clear h2q
      go_upto_region 11 with fail
      exact stageA fs gs v v2 a u q p tt t0 k0 dd p9 F1 S RA RB w _ _ _ _ _ _ _ _ _ _ _ _ _ _ _ _ _ _ _ _ _ _ _ _ _ _ _ _ _ _ _ _ _ _ _ _ _ _ _ _ _ _ _ _ _ _ _ _ _ _ _ _ _ _ _ _ _ _ _ _ _ _ _ _ _ _ _ _ _ _ _ _ _ _ _ _ _ _ _ _ _ _ _ _ _ _ _ _ _ _ _ _ _ _ _ _ _ _ _ _ _ _ _ _ _ _ _ _ _ _ _ _ _ _ _ _ _ _ _ _ _ _ _ _ _ _ _ _ _ _ _ _ _ _ _ _ _ _ _ _ _ _ _ _ _ _ _ _ _ _ _ _ _ _ _ _ _ _ _ _ _ _ _ _ _ _ _ _ _ _ _ _ _ _ _ _ _ _ _ _ _ _ _ _ _ _ _ _ _ _ _ _ _ _ _ _ _ _ _ _ _ _ _ _ _ _ _ _ _ _ _ _ _ _ _ _ _ _ _ _ _ _ _ _ _ _ _ _ _ _ _ _ _ _ _ _ _ _ _ _ _ _ _ _ _ _ _ _ _ _ _ _ _ _ _ _ _ _ _ _ _ _ _ _ _ _ _ _ _ _ _ _ _ _ _ _ _ _ _ _ _ _ _ _ _ _ _ _ _ _ _ _ _ _ _ _ _ _ _ _ _ _ _ _ _ _ _ _ _ _ _ _ _ _ _ _ _ _ _ _ _ _ _ _ _ _ _ _ _ _ _ _ _ _ _ _ _ _ _ _ _ _ _ _ _ _ _ _ _ _ _ _ _ _ _ _ _ _ _ _ _ _ _ _ _ _ _ _ _ _ _ _ _ _ _ _ _ _ _ _ _ _ _ _ _ _ _ _ _ _ _ _ _ _ _ _ _ _ _ _ _ _ _ _ _ _ _ _ _ _ _ _ _ _ _ _ _ _ _ _ _ _ _ _ _ _ _ _ _ _ _ _ _ _ _ _ _ _ _ _ _ _ _ _ _ _ _ _ _ _ _ _ _ _ _ _ _ _ _ _ _ _ _ _ _ _ _ _ _ _ _ _ _ _ (by assumption) HB2.out ba1 ba2 bu bp1 bp2 bq2 x44 HE1.out HE2.out (HALL.out tt x44) H44 x45 x47 x0 x1 H45 H46 H47 H0 H1
end Go.Proofs.Yticocfoheenmdaa
