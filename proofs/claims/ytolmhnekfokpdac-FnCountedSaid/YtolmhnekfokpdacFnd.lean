/- The law of counts: sums of counts. -/
import Derived.Test.YtolmhnekfokpdacFni
import Derived.RegionTactic
import Derived.BigQuiet
import Derived.Deep.DeepCutAuto
import Derived.Deep.CutBlock
set_option linter.unusedVariables false
namespace Go.Proofs.Ytolmhnekfokpdac
open Go.RowKit Fl
attribute [local go_sem] Oper.semAt_some
set_option maxRecDepth 1000000 in
set_option maxHeartbeats 16000000 in
theorem stageB (gs : List Int) (v v2 : Value) (n t b1 o1 cap1 b2 o2 cap2 : Nat) (w wc : World) (s2 s3 s4 s8 s10 s13 s15 s17 s18 s19 s20 s21 s22 s23 s24 s25 s26 s27 s28 s29 s30 s31 s32 s33 s34 s35 s36 s37 s38 s39 s40 s41 s42 s43 s44 s45 s46 s47 s48 s49 s50 s51 s52 s53 s54 s55 s56 s57 s58 s59 s60 s61 s62 s63 s64 s65 s66 s67 s68 s69 s70 s71 s72 s73 s74 s75 s76 s77 s78 s79 s80 s81 s82 s83 s84 s85 s86 s87 s88 s89 s90 s91 s92 s93 s94 s95 s96 s97 s98 s99 s100 s101 s102 s103 s104 s105 s106 s107 s108 s109 s110 s111 s112 s113 s114 s115 s116 s117 s118 s119 s120 s121 s122 s123 s124 s125 s126 s127 s128 s129 s130 s131 s132 s133 s134 s135 s136 s137 s138 s139 s140 s141 s142 s143 s144 s145 s146 s147 s148 s149 s150 s151 s152 s153 s154 s155 s156 s157 s158 s159 s160 s161 s162 s163 s164 s165 s166 s167 s168 s169 s170 s171 s172 s173 s174 s175 s176 s177 s178 s179 s180 s181 s182 s183 s184 s185 s186 s187 s188 s189 s190 s191 s192 s193 s194 s195 s196 s197 s198 s199 s200 s201 s202 s203 s204 s205 s206 s207 s208 s209 s210 s211 s212 s213 s214 s215 s216 s217 s218 s219 s220 s221 s222 s223 s224 s225 s226 s227 s228 s229 s230 s231 s232 s233 s234 s235 s236 s237 s238 s239 s240 s241 s242 s243 s244 s245 s246 s247 s248 s249 s250 s251 s252 s253 s254 s255 s256 s257 s258 s259 s260 s261 s262 s263 s264 s265 s266 s267 s268 s269 s270 s271 s272 s273 s274 s275 s276 s277 s278 s279 s280 s281 s282 s283 s284 s285 s286 s287 s288 s289 s290 s291 s292 s293 s294 s295 s296 s297 s298 s299 s300 s301 s302 s303 s304 s305 s306 s307 s308 s309 s310 s311 s312 s313 s314 s315 s316 s317 s318 s319 s320 s321 s322 s323 s324 s325 s326 s327 s328 s329 s330 s331 s332 s333 s334 s335 s336 s337 s338 s339 s340 s341 s342 s343 s344 s345 s346 s347 s348 s349 s350 s351 s352 s353 s354 s355 s356 s357 s358 s359 s360 s361 s362 s363 s364 s365 s366 s367 s368 s369 s370 s371 s372 s373 s374 s375 s376 s377 s378 s379 s380 s381 s382 s383 s384 s385 s386 s387 s388 s389 s390 s391 s392 s393 s394 s395 s396 s397 s398 s399 s400 s401 s402 s403 s404 s405 s406 s407 s408 s409 s410 s411 s412 s413 s414 s415 s416 s417 s418 : Value) (K : Act → World → Prop)
    (hK : ∀ a z, Code.wp Try.prog (tailN 13 fnBody) (bodyPost Try.prog Try.f6 fun e w' => e = Ending.returned (Value.bool true) ∧ Below w.heap.size w w') a z → K a z)
    (HA : Hid (∀ (z : World), Below w.heap.size w z → ∀ (k n : Nat), 1 ≤ n → n ≤ 1000000 → k ≤ 1000 → Calls Try.prog 23 #[v2, .int .i64 (k : Int), .int .i64 (n : Int)] z fun e w' => e = .returned (.int .i64 ((r8V gs k n : Nat) : Int)) ∧ z = w')) (hb0 : Below w.heap.size w wc) (hn1 : 1 ≤ n) (hn9 : n < 9) (ht1 : 1 ≤ t) (ht5 : t < 5) (hb1 : b1 < wc.heap.size) (hc1 : n ≤ cap1) (HC1 : Hid (∀ i, i < n → wc.cell? ⟨b1, o1 + i, none⟩ = some (.int .i64 ((res_DescentCounts (n : Int)).getD i 0)))) (hb2 : b2 < wc.heap.size) (hc2 : n + 1 ≤ cap2) (HC2 : Hid (∀ i, i < n + 1 → wc.cell? ⟨b2, o2 + i, none⟩ = some (.int .i64 ((res_MatchCounts (n : Int)).getD i 0)))) :
    Code.wp Try.prog (headN 12 fnBody) (Exit.then K (bodyPost Try.prog Try.f6 fun e w' => e = Ending.returned (Value.bool true) ∧ Below w.heap.size w w')) ⟨#[v, v2, s2, s3, s4, .int .i64 (n : Int), .int .i64 (t : Int), .slice (some ⟨b1, o1, none⟩) n cap1, s8, .slice (some ⟨b2, o2, none⟩) (n + 1) cap2, s10, .int .i64 (res_FarFromEven (n : Int) (t : Int)), .int .i64 (res2_FarFromEven (n : Int) (t : Int)), s13, .int .i64 ((fct n : Nat) : Int), s15, .int .i64 (pw2I (t * n)), s17, s18, s19, s20, s21, s22, s23, s24, s25, s26, s27, s28, s29, s30, s31, s32, s33, s34, s35, s36, s37, s38, s39, s40, s41, s42, s43, s44, s45, s46, s47, s48, s49, s50, s51, s52, s53, s54, s55, s56, s57, s58, s59, s60, s61, s62, s63, s64, s65, s66, s67, s68, s69, s70, s71, s72, s73, s74, s75, s76, s77, s78, s79, s80, s81, s82, s83, s84, s85, s86, s87, s88, s89, s90, s91, s92, s93, s94, s95, s96, s97, s98, s99, s100, s101, s102, s103, s104, s105, s106, s107, s108, s109, s110, s111, s112, s113, s114, s115, s116, s117, s118, s119, s120, s121, s122, s123, s124, s125, s126, s127, s128, s129, s130, s131, s132, s133, s134, s135, s136, s137, s138, s139, s140, s141, s142, s143, s144, s145, s146, s147, s148, s149, s150, s151, s152, s153, s154, s155, s156, s157, s158, s159, s160, s161, s162, s163, s164, s165, s166, s167, s168, s169, s170, s171, s172, s173, s174, s175, s176, s177, s178, s179, s180, s181, s182, s183, s184, s185, s186, s187, s188, s189, s190, s191, s192, s193, s194, s195, s196, s197, s198, s199, s200, s201, s202, s203, s204, s205, s206, s207, s208, s209, s210, s211, s212, s213, s214, s215, s216, s217, s218, s219, s220, s221, s222, s223, s224, s225, s226, s227, s228, s229, s230, s231, s232, s233, s234, s235, s236, s237, s238, s239, s240, s241, s242, s243, s244, s245, s246, s247, s248, s249, s250, s251, s252, s253, s254, s255, s256, s257, s258, s259, s260, s261, s262, s263, s264, s265, s266, s267, s268, s269, s270, s271, s272, s273, s274, s275, s276, s277, s278, s279, s280, s281, s282, s283, s284, s285, s286, s287, s288, s289, s290, s291, s292, s293, s294, s295, s296, s297, s298, s299, s300, s301, s302, s303, s304, s305, s306, s307, s308, s309, s310, s311, s312, s313, s314, s315, s316, s317, s318, s319, s320, s321, s322, s323, s324, s325, s326, s327, s328, s329, s330, s331, s332, s333, s334, s335, s336, s337, s338, s339, s340, s341, s342, s343, s344, s345, s346, s347, s348, s349, s350, s351, s352, s353, s354, s355, s356, s357, s358, s359, s360, s361, s362, s363, s364, s365, s366, s367, s368, s369, s370, s371, s372, s373, s374, s375, s376, s377, s378, s379, s380, s381, s382, s383, s384, s385, s386, s387, s388, s389, s390, s391, s392, s393, s394, s395, s396, s397, s398, s399, s400, s401, s402, s403, s404, s405, s406, s407, s408, s409, s410, s411, s412, s413, s414, s415, s416, s417, s418], []⟩ wc := by
  conv at hK => enter [a, z, 1, 2]; whnf
  conv => arg 2; whnf
  have HB0 := Lib.hid hb0
  clear hb0
  go_wp2_with fail
  go_loopw [18, 19, 21] (fun a b i wr => ∃ k : Nat, k ≤ n ∧ i = .int .i64 (k : Int) ∧ a = .int .i64 (sD n k) ∧ b = .int .i64 (sW n t k) ∧ Below wc.heap.size wc wr) (fun _ _ i _ => n - (intOf i).toNat)
  case atStart => exact ⟨0, by omega, rfl, rfl, rfl, Below.refl _ _⟩
  case round =>
    obtain ⟨k, hk1, rfl, rfl, rfl, hb⟩ := hrel
    have Hb := Lib.hid hb
    clear hb
    by_cases hlk : k < n
    · obtain ⟨a1, a2, a3, a4, a5, a6⟩ := cnt_k n t k hn9 ht5 ht1 hlk
      obtain ⟨y, hy⟩ : ∃ y, y = n - 1 - k := ⟨_, rfl⟩
      have hyn : y < n := by omega
      rw [← hy] at a4
      have HR := Lib.hid (fun z => impl_RiffleWays (n : Int) (by omega) (by omega) ((k : Int) + 1) (by omega) (by omega) (t : Int) (by omega) (by omega) z)
      rw [a1] at HR
      have c1 := (Hb.out.cell (p := ⟨b1, o1 + k, none⟩) hb1).trans (HC1.out k hlk)
      have c2 := (Hb.out.cell (p := ⟨b1, o1 + y, none⟩) hb1).trans (HC1.out y hyn)
      rw [← a4] at c2
      have E1 := Lib.hid (show sD n (k + 1) = sD n k + (res_DescentCounts (n : Int)).getD k 0 from rfl)
      have E2 := Lib.hid (show sW n t (k + 1) = sW n t k + (res_DescentCounts (n : Int)).getD k 0 * res_RiffleWays (n : Int) ((k : Int) + 1) (t : Int) from rfl)
      clear a1 a4
      have m0 : 0 ≤ (res_DescentCounts (n : Int)).getD k 0 * res_RiffleWays (n : Int) ((k : Int) + 1) (t : Int) := Int.mul_nonneg (by omega) a2.1
      have m1 : (res_DescentCounts (n : Int)).getD k 0 * res_RiffleWays (n : Int) ((k : Int) + 1) (t : Int) ≤ 1000000 * 1000000000 := Int.mul_le_mul a3.2 a2.2 a2.1 (by decide)
      generalize res_RiffleWays (n : Int) ((k : Int) + 1) (t : Int) = X at *
      generalize (res_DescentCounts (n : Int)).getD k 0 = D at *
      generalize sD n k = S1 at *
      generalize sW n t k = S2 at *
      have hidx : IntKind.i64.wrap (IntKind.i64.wrap ((n : Int) - 1) - (k : Int)) = (y : Int) := by
        rw [IntWalk.i64_in ((n : Int) - 1) (by omega), IntWalk.i64_in ((n : Int) - 1 - (k : Int)) (by omega)]
        omega
      clear hy
      go_wp2_with fail
      refine (HR.out _).mono ?_
      rintro e w2 ⟨rfl, hb2'⟩
      have HB2 := Lib.hid (Hb.out.trans (hb2'.mono Hb.out.size))
      have d1 := (hb2'.cell (p := ⟨b1, o1 + k, none⟩) (by have := Hb.out.size; show b1 < _; omega)).trans c1
      have d2 := (hb2'.cell (p := ⟨b1, o1 + y, none⟩) (by have := Hb.out.size; show b1 < _; omega)).trans c2
      clear c1 c2 hb2' Hb HR
      go_wp2_with fail
      go_quiet (fail)
      go_wp2
      go_roundw
      case rel => exact ⟨k + 1, by omega, by go_num, by rw [E1.out], by rw [E2.out], below_drewN HB2.out _⟩
      case measure => simp [intOf]; omega
    · obtain rfl : n = k := by omega
      obtain ⟨-, -, -, -, -, -, -, -, -, -, a11, a12, -⟩ := cnt_facts n t hn9 hn1 ht5 ht1
      rw [a11, a12]
      have hszb := Hb.out.size
      have HC2' : Hid (∀ i, i < n + 1 → wr.cell? ⟨b2, o2 + i, none⟩ = some (.int .i64 ((res_MatchCounts (n : Int)).getD i 0))) := Lib.hid (fun i hi => (Hb.out.cell (p := ⟨b2, o2 + i, none⟩) hb2).trans (HC2.out i hi))
      have HB8 := HB0.out.trans (Hb.out.mono HB0.out.size)
      have HA' := HA.out
      clear a11 a12
      go_upto_region 31 with fail
      exact stageB2 gs v v2 n t b2 o2 cap2 w _ _ _ _ _ _ _ _ _ _ _ _ _ _ _ _ _ _ _ _ _ _ _ _ _ _ _ _ _ _ _ _ _ _ _ _ _ _ _ _ _ _ _ _ _ _ _ _ _ _ _ _ _ _ _ _ _ _ _ _ _ _ _ _ _ _ _ _ _ _ _ _ _ _ _ _ _ _ _ _ _ _ _ _ _ _ _ _ _ _ _ _ _ _ _ _ _ _ _ _ _ _ _ _ _ _ _ _ _ _ _ _ _ _ _ _ _ _ _ _ _ _ _ _ _ _ _ _ _ _ _ _ _ _ _ _ _ _ _ _ _ _ _ _ _ _ _ _ _ _ _ _ _ _ _ _ _ _ _ _ _ _ _ _ _ _ _ _ _ _ _ _ _ _ _ _ _ _ _ _ _ _ _ _ _ _ _ _ _ _ _ _ _ _ _ _ _ _ _ _ _ _ _ _ _ _ _ _ _ _ _ _ _ _ _ _ _ _ _ _ _ _ _ _ _ _ _ _ _ _ _ _ _ _ _ _ _ _ _ _ _ _ _ _ _ _ _ _ _ _ _ _ _ _ _ _ _ _ _ _ _ _ _ _ _ _ _ _ _ _ _ _ _ _ _ _ _ _ _ _ _ _ _ _ _ _ _ _ _ _ _ _ _ _ _ _ _ _ _ _ _ _ _ _ _ _ _ _ _ _ _ _ _ _ _ _ _ _ _ _ _ _ _ _ _ _ _ _ _ _ _ _ _ _ _ _ _ _ _ _ _ _ _ _ _ _ _ _ _ _ _ _ _ _ _ _ _ _ _ _ _ _ _ _ _ _ _ _ _ _ _ _ _ _ _ _ _ _ _ _ _ _ _ _ _ _ _ _ _ _ _ _ _ _ _ _ _ _ _ _ _ _ _ _ _ _ _ _ _ _ (by assumption) (by assumption) (Lib.hid HA') HB8 hn1 hn9 ht1 ht5 (by omega) hc2 HC2'
end Go.Proofs.Ytolmhnekfokpdac
