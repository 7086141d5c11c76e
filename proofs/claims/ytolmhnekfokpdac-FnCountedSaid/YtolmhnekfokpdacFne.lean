/- The law of counts: rings. -/
import Derived.Test.YtolmhnekfokpdacFnh
import Derived.Deep.DeepCutAuto
import Derived.Deep.CutBlock
import Derived.Deep.RegionWith
set_option linter.unusedVariables false
namespace Go.Proofs.Ytolmhnekfokpdac
open Go.RowKit Fl
attribute [local go_sem] Oper.semAt_some
theorem cut_facts (k m c : Nat) (hk : k < 5) (hk1 : 1 ≤ k) (hm : m < 6) (hm1 : 1 ≤ m) (hc : c < k * m + 1) :
    ok_NewDeck ((k * m : Nat) : Int) = true ∧ (res_NewDeck ((k * m : Nat) : Int)).length = k * m ∧ ok_CutDeck (res_NewDeck ((k * m : Nat) : Int)) (c : Int) = true ∧ (res_CutDeck (res_NewDeck ((k * m : Nat) : Int)) (c : Int)).length = k * m ∧
    ok_IsPaired (res_CutDeck (res_NewDeck ((k * m : Nat) : Int)) (c : Int)) (k : Int) = true ∧ res_IsPaired (res_CutDeck (res_NewDeck ((k * m : Nat) : Int)) (c : Int)) (k : Int) = true := by
  have h := cut_allB k hk hk1 m hm hm1 c hc
  unfold cutB at h
  simp only [Bool.and_eq_true, decide_eq_true_eq] at h
  obtain ⟨⟨⟨⟨⟨h1, h2⟩, h3⟩, h4⟩, h5⟩, h6⟩ := h
  exact ⟨h1, h2, h3, h4, h5, h6⟩
set_option maxRecDepth 1000000 in
set_option maxHeartbeats 16000000 in
theorem stageD (gs : List Int) (v v2 : Value) (w wc : World) (s2 s3 s4 s5 s6 s7 s8 s9 s10 s11 s12 s13 s14 s15 s16 s17 s18 s19 s20 s21 s22 s23 s24 s25 s26 s27 s28 s29 s30 s31 s32 s33 s34 s35 s36 s37 s38 s39 s40 s41 s42 s43 s44 s45 s46 s47 s48 s49 s50 s51 s52 s53 s54 s55 s56 s57 s58 s59 s60 s61 s62 s63 s64 s65 s66 s67 s68 s69 s70 s71 s72 s73 s74 s75 s76 s77 s78 s79 s80 s81 s82 s83 s84 s85 s86 s87 s88 s89 s90 s91 s92 s93 s94 s95 s96 s97 s98 s99 s100 s101 s102 s103 s104 s105 s106 s107 s108 s109 s110 s111 s112 s113 s114 s115 s116 s117 s118 s119 s120 s121 s122 s123 s124 s125 s126 s127 s128 s129 s130 s131 s132 s133 s134 s135 s136 s137 s138 s139 s140 s141 s142 s143 s144 s145 s146 s147 s148 s149 s150 s151 s152 s153 s154 s155 s156 s157 s158 s159 s160 s161 s162 s163 s164 s165 s166 s167 s168 s169 s170 s171 s172 s173 s174 s175 s176 s177 s178 s179 s180 s181 s182 s183 s184 s185 s186 s187 s188 s189 s190 s191 s192 s193 s194 s195 s196 s197 s198 s199 s200 s201 s202 s203 s204 s205 s206 s207 s208 s209 s210 s211 s212 s213 s214 s215 s216 s217 s218 s219 s220 s221 s222 s223 s224 s225 s226 s227 s228 s229 s230 s231 s232 s233 s234 s235 s236 s237 s238 s239 s240 s241 s242 s243 s244 s245 s246 s247 s248 s249 s250 s251 s252 s253 s254 s255 s256 s257 s258 s259 s260 s261 s262 s263 s264 s265 s266 s267 s268 s269 s270 s271 s272 s273 s274 s275 s276 s277 s278 s279 s280 s281 s282 s283 s284 s285 s286 s287 s288 s289 s290 s291 s292 s293 s294 s295 s296 s297 s298 s299 s300 s301 s302 s303 s304 s305 s306 s307 s308 s309 s310 s311 s312 s313 s314 s315 s316 s317 s318 s319 s320 s321 s322 s323 s324 s325 s326 s327 s328 s329 s330 s331 s332 s333 s334 s335 s336 s337 s338 s339 s340 s341 s342 s343 s344 s345 s346 s347 s348 s349 s350 s351 s352 s353 s354 s355 s356 s357 s358 s359 s360 s361 s362 s363 s364 s365 s366 s367 s368 s369 s370 s371 s372 s373 s374 s375 s376 s377 s378 s379 s380 s381 s382 s383 s384 s385 s386 s387 s388 s389 s390 s391 s392 s393 s394 s395 s396 s397 s398 s399 s400 s401 s402 s403 s404 s405 s406 s407 s408 s409 s410 s411 s412 s413 s414 s415 s416 s417 s418 : Value) (K : Act → World → Prop)
    (hK : ∀ a z, Code.wp Try.prog (tailN 31 fnBody) (bodyPost Try.prog Try.f6 fun e w' => e = Ending.returned (Value.bool true) ∧ Below w.heap.size w w') a z → K a z)
    (HA : Hid (∀ (z : World), Below w.heap.size w z → ∀ (k n : Nat), 1 ≤ n → n ≤ 1000000 → k ≤ 1000 → Calls Try.prog 23 #[v2, .int .i64 (k : Int), .int .i64 (n : Int)] z fun e w' => e = .returned (.int .i64 ((r8V gs k n : Nat) : Int)) ∧ z = w')) (hb0 : Below w.heap.size w wc) :
    Code.wp Try.prog (headN 30 fnBody) (Exit.then K (bodyPost Try.prog Try.f6 fun e w' => e = Ending.returned (Value.bool true) ∧ Below w.heap.size w w')) ⟨#[v, v2, s2, s3, s4, s5, s6, s7, s8, s9, s10, s11, s12, s13, s14, s15, s16, s17, s18, s19, s20, s21, s22, s23, s24, s25, s26, s27, s28, s29, s30, s31, s32, s33, s34, s35, s36, s37, s38, s39, s40, s41, s42, s43, s44, s45, s46, s47, s48, s49, s50, s51, s52, s53, s54, s55, s56, s57, s58, s59, s60, s61, s62, s63, s64, s65, s66, s67, s68, s69, s70, s71, s72, s73, s74, s75, s76, s77, s78, s79, s80, s81, s82, s83, s84, s85, s86, s87, s88, s89, s90, s91, s92, s93, s94, s95, s96, s97, s98, s99, s100, s101, s102, s103, s104, s105, s106, s107, s108, s109, s110, s111, s112, s113, s114, s115, s116, s117, s118, s119, s120, s121, s122, s123, s124, s125, s126, s127, s128, s129, s130, s131, s132, s133, s134, s135, s136, s137, s138, s139, s140, s141, s142, s143, s144, s145, s146, s147, s148, s149, s150, s151, s152, s153, s154, s155, s156, s157, s158, s159, s160, s161, s162, s163, s164, s165, s166, s167, s168, s169, s170, s171, s172, s173, s174, s175, s176, s177, s178, s179, s180, s181, s182, s183, s184, s185, s186, s187, s188, s189, s190, s191, s192, s193, s194, s195, s196, s197, s198, s199, s200, s201, s202, s203, s204, s205, s206, s207, s208, s209, s210, s211, s212, s213, s214, s215, s216, s217, s218, s219, s220, s221, s222, s223, s224, s225, s226, s227, s228, s229, s230, s231, s232, s233, s234, s235, s236, s237, s238, s239, s240, s241, s242, s243, s244, s245, s246, s247, s248, s249, s250, s251, s252, s253, s254, s255, s256, s257, s258, s259, s260, s261, s262, s263, s264, s265, s266, s267, s268, s269, s270, s271, s272, s273, s274, s275, s276, s277, s278, s279, s280, s281, s282, s283, s284, s285, s286, s287, s288, s289, s290, s291, s292, s293, s294, s295, s296, s297, s298, s299, s300, s301, s302, s303, s304, s305, s306, s307, s308, s309, s310, s311, s312, s313, s314, s315, s316, s317, s318, s319, s320, s321, s322, s323, s324, s325, s326, s327, s328, s329, s330, s331, s332, s333, s334, s335, s336, s337, s338, s339, s340, s341, s342, s343, s344, s345, s346, s347, s348, s349, s350, s351, s352, s353, s354, s355, s356, s357, s358, s359, s360, s361, s362, s363, s364, s365, s366, s367, s368, s369, s370, s371, s372, s373, s374, s375, s376, s377, s378, s379, s380, s381, s382, s383, s384, s385, s386, s387, s388, s389, s390, s391, s392, s393, s394, s395, s396, s397, s398, s399, s400, s401, s402, s403, s404, s405, s406, s407, s408, s409, s410, s411, s412, s413, s414, s415, s416, s417, s418], []⟩ wc := by
  conv at hK => enter [a, z, 1, 2]; whnf
  conv => arg 2; whnf
  have x4 := r8V_lt gs 44 4 (by omega)
  have x5 := r8V_lt gs 45 5 (by omega)
  have HA44 := Lib.hid (fun z hz => HA.out z hz 44 4 (by omega) (by omega) (by omega))
  have HA45 := Lib.hid (fun z hz => HA.out z hz 45 5 (by omega) (by omega) (by omega))
  generalize r8V gs 44 4 = x44 at *
  generalize r8V gs 45 5 = x45 at *
  obtain ⟨k, hk⟩ : ∃ k, k = x44 + 1 := ⟨_, rfl⟩
  obtain ⟨m, hm⟩ : ∃ m, m = x45 + 1 := ⟨_, rfl⟩
  have hkm : (k : Int) * (m : Int) = ((k * m : Nat) : Int) := by simp
  have hb : 1 ≤ k * m ∧ k * m ≤ 20 := ⟨Nat.mul_le_mul (by omega : 1 ≤ k) (by omega : 1 ≤ m), Nat.mul_le_mul (by omega : k ≤ 4) (by omega : m ≤ 5)⟩
  have ek : (1 : Int) + (x44 : Int) = (k : Int) := by omega
  have emm : (1 : Int) + (x45 : Int) = (m : Int) := by omega
  have k5 : k < 5 := by omega
  have k1 : 1 ≤ k := by omega
  have m6 : m < 6 := by omega
  have m1 : 1 ≤ m := by omega
  obtain ⟨c, hc⟩ : ∃ c, c = r8V gs 46 (k * m + 1) := ⟨_, rfl⟩
  have hcl : c < k * m + 1 := by rw [hc]; exact r8V_lt gs 46 (k * m + 1) (by omega)
  have HA46 := Lib.hid (fun z hz => HA.out z hz 46 (k * m + 1) (by omega) (by omega) (by omega))
  rw [← hc] at HA46
  obtain ⟨h1, h2, h3, h4, h5, h6⟩ := cut_facts k m c k5 k1 m6 m1 hcl
  have HN := Lib.hid (fun z => impl_NewDeck ((k * m : Nat) : Int) (by omega) (by omega) z)
  rw [h1] at HN
  generalize res_NewDeck ((k * m : Nat) : Int) = D0 at *
  have HCt := Lib.hid (fun (v0 : Value) (z : World) (h : Sl (Value.int .i64) 0 z v0 D0) => impl_CutDeck D0 v0 (c : Int) (by omega) (by omega) z (by omega) h)
  rw [h3] at HCt
  generalize res_CutDeck D0 (c : Int) = D1 at *
  have HP := Lib.hid (fun (v0 : Value) (z : World) (h : Sl (Value.int .i64) 0 z v0 D1) => impl_IsPaired D1 v0 (k : Int) z (by omega) h)
  rw [h5, h6] at HP
  have H2 := Lib.hid h2
  have HKM := Lib.hid hkm
  have EK := Lib.hid ek
  have EMM := Lib.hid emm
  have HWr := Lib.hid (show RowKit.wrap64 ((k : Int) * (1 + (x45 : Int))) = ((k * m : Nat) : Int) by rw [emm, hkm]; exact IntWalk.wrap64_in ((k * m : Nat) : Int) (by omega))
  generalize k * m = km at *
  have HB0 := Lib.hid hb0
  clear hb0 hk hm hc h1 h2 h3 h4 h5 h6 hkm ek emm HA
  go_wp2_with fail
  refine (HA44.out _ HB0.out).mono ?_
  rintro e w' ⟨rfl, rfl⟩
  go_wp2_with fail
  rw [EK.out]
  refine (HA45.out _ HB0.out).mono ?_
  rintro e w' ⟨rfl, rfl⟩
  go_wp2_with fail
  rw [HWr.out]
  refine (HN.out _).mono ?_
  rintro e w1 ⟨r, rfl, hr, hb1⟩
  have Hr := Lib.hid hr.sl
  obtain ⟨p1, cap1, rfl, -⟩ := hr
  rw [H2.out] at Hr ⊢
  have HB1 := Lib.hid (HB0.out.trans (hb1.mono HB0.out.size))
  clear hb1
  go_wp2_with fail
  refine (HA46.out _ HB1.out).mono ?_
  rintro e w' ⟨rfl, rfl⟩
  go_wp2_with fail
  refine (HCt.out _ _ Hr.out).mono ?_
  rintro e w2 ⟨r2, rfl, hr2, hb2⟩
  have Hr2 := Lib.hid hr2.sl
  obtain ⟨p2, cap2, rfl, -⟩ := hr2
  have HB2 := Lib.hid (HB1.out.trans (hb2.mono HB1.out.size))
  clear hb2
  go_wp2_with fail
  refine (HP.out _ _ Hr2.out).mono ?_
  rintro e w3 ⟨rfl, hb3⟩
  have HB3 := Lib.hid (HB2.out.trans (hb3.mono HB2.out.size))
  clear hb3
  go_wp2
  go_ret
  exact ⟨rfl, HB3.out⟩
theorem wordStep (m x d : Nat) (hx : x < 64) (hd : d < m) : (x : Int).fdiv (2 ^ d) = ((x / 2 ^ d : Nat) : Int) ∧ bits .and .i64 ((x / 2 ^ d : Nat) : Int) 1 = wordG m x (m - (d + 1)) := by
  constructor
  · rw [Int.fdiv_eq_ediv_of_nonneg _ (Int.pow_nonneg (by decide))]
    rw [Int.natCast_ediv, Int.natCast_pow]
    rfl
  · rw [and1 _ (Nat.lt_of_le_of_lt (Nat.div_le_self _ _) (by omega))]
    unfold wordG
    rw [show m - 1 - (m - (d + 1)) = d by omega]
theorem wrd_facts (m x S : Nat) (hS : S = 2 ^ m) (h : wrdB m x = true) : ∃ A : Nat, ok_WordAt (ringL m) (tab m (wordG m x)) = true ∧ A < S ∧ res_WordAt (ringL m) (tab m (wordG m x)) = (A : Int) ∧ ∀ k, k < m → (ringL m).getD ((A + k) % S) 0 = (tab m (wordG m x)).getD k 0 := by
  subst hS
  unfold wrdB at h
  simp only [Bool.and_eq_true, decide_eq_true_eq, List.all_eq_true, List.mem_range] at h
  obtain ⟨⟨⟨h1, h2⟩, h3⟩, h4⟩ := h
  have h5 : res_WordAt (ringL m) (tab m (wordG m x)) = ((res_WordAt (ringL m) (tab m (wordG m x))).toNat : Int) := by omega
  refine ⟨(res_WordAt (ringL m) (tab m (wordG m x))).toNat, h1, ?_, h5, fun k hk => ?_⟩
  · have : ((2 ^ m : Nat) : Int) = (2 : Int) ^ m := by simp
    omega
  · rw [h4 k hk, tab_get _ _ _ hk]
theorem ringS : ∀ m, m < 7 → 1 ≤ m → 2 ≤ 2 ^ m ∧ 2 ^ m ≤ 64 := by decide +kernel
theorem ringW : ∀ m, m < 7 → RowKit.wrap64 (2 ^ m) = ((2 ^ m : Nat) : Int) := by decide +kernel
set_option maxRecDepth 1000000 in
set_option maxHeartbeats 16000000 in
theorem stageC (gs : List Int) (v v2 : Value) (w wc : World) (s2 s3 s4 s5 s6 s7 s8 s9 s10 s11 s12 s13 s14 s15 s16 s17 s18 s19 s20 s21 s22 s23 s24 s25 s26 s27 s28 s29 s30 s31 s32 s33 s34 s35 s36 s37 s38 s39 s40 s41 s42 s43 s44 s45 s46 s47 s48 s49 s50 s51 s52 s53 s54 s55 s56 s57 s58 s59 s60 s61 s62 s63 s64 s65 s66 s67 s68 s69 s70 s71 s72 s73 s74 s75 s76 s77 s78 s79 s80 s81 s82 s83 s84 s85 s86 s87 s88 s89 s90 s91 s92 s93 s94 s95 s96 s97 s98 s99 s100 s101 s102 s103 s104 s105 s106 s107 s108 s109 s110 s111 s112 s113 s114 s115 s116 s117 s118 s119 s120 s121 s122 s123 s124 s125 s126 s127 s128 s129 s130 s131 s132 s133 s134 s135 s136 s137 s138 s139 s140 s141 s142 s143 s144 s145 s146 s147 s148 s149 s150 s151 s152 s153 s154 s155 s156 s157 s158 s159 s160 s161 s162 s163 s164 s165 s166 s167 s168 s169 s170 s171 s172 s173 s174 s175 s176 s177 s178 s179 s180 s181 s182 s183 s184 s185 s186 s187 s188 s189 s190 s191 s192 s193 s194 s195 s196 s197 s198 s199 s200 s201 s202 s203 s204 s205 s206 s207 s208 s209 s210 s211 s212 s213 s214 s215 s216 s217 s218 s219 s220 s221 s222 s223 s224 s225 s226 s227 s228 s229 s230 s231 s232 s233 s234 s235 s236 s237 s238 s239 s240 s241 s242 s243 s244 s245 s246 s247 s248 s249 s250 s251 s252 s253 s254 s255 s256 s257 s258 s259 s260 s261 s262 s263 s264 s265 s266 s267 s268 s269 s270 s271 s272 s273 s274 s275 s276 s277 s278 s279 s280 s281 s282 s283 s284 s285 s286 s287 s288 s289 s290 s291 s292 s293 s294 s295 s296 s297 s298 s299 s300 s301 s302 s303 s304 s305 s306 s307 s308 s309 s310 s311 s312 s313 s314 s315 s316 s317 s318 s319 s320 s321 s322 s323 s324 s325 s326 s327 s328 s329 s330 s331 s332 s333 s334 s335 s336 s337 s338 s339 s340 s341 s342 s343 s344 s345 s346 s347 s348 s349 s350 s351 s352 s353 s354 s355 s356 s357 s358 s359 s360 s361 s362 s363 s364 s365 s366 s367 s368 s369 s370 s371 s372 s373 s374 s375 s376 s377 s378 s379 s380 s381 s382 s383 s384 s385 s386 s387 s388 s389 s390 s391 s392 s393 s394 s395 s396 s397 s398 s399 s400 s401 s402 s403 s404 s405 s406 s407 s408 s409 s410 s411 s412 s413 s414 s415 s416 s417 s418 : Value) (K : Act → World → Prop)
    (hK : ∀ a z, Code.wp Try.prog (tailN 20 fnBody) (bodyPost Try.prog Try.f6 fun e w' => e = Ending.returned (Value.bool true) ∧ Below w.heap.size w w') a z → K a z)
    (HA : Hid (∀ (z : World), Below w.heap.size w z → ∀ (k n : Nat), 1 ≤ n → n ≤ 1000000 → k ≤ 1000 → Calls Try.prog 23 #[v2, .int .i64 (k : Int), .int .i64 (n : Int)] z fun e w' => e = .returned (.int .i64 ((r8V gs k n : Nat) : Int)) ∧ z = w')) (hb0 : Below w.heap.size w wc) :
    Code.wp Try.prog (headN 19 fnBody) (Exit.then K (bodyPost Try.prog Try.f6 fun e w' => e = Ending.returned (Value.bool true) ∧ Below w.heap.size w w')) ⟨#[v, v2, s2, s3, s4, s5, s6, s7, s8, s9, s10, s11, s12, s13, s14, s15, s16, s17, s18, s19, s20, s21, s22, s23, s24, s25, s26, s27, s28, s29, s30, s31, s32, s33, s34, s35, s36, s37, s38, s39, s40, s41, s42, s43, s44, s45, s46, s47, s48, s49, s50, s51, s52, s53, s54, s55, s56, s57, s58, s59, s60, s61, s62, s63, s64, s65, s66, s67, s68, s69, s70, s71, s72, s73, s74, s75, s76, s77, s78, s79, s80, s81, s82, s83, s84, s85, s86, s87, s88, s89, s90, s91, s92, s93, s94, s95, s96, s97, s98, s99, s100, s101, s102, s103, s104, s105, s106, s107, s108, s109, s110, s111, s112, s113, s114, s115, s116, s117, s118, s119, s120, s121, s122, s123, s124, s125, s126, s127, s128, s129, s130, s131, s132, s133, s134, s135, s136, s137, s138, s139, s140, s141, s142, s143, s144, s145, s146, s147, s148, s149, s150, s151, s152, s153, s154, s155, s156, s157, s158, s159, s160, s161, s162, s163, s164, s165, s166, s167, s168, s169, s170, s171, s172, s173, s174, s175, s176, s177, s178, s179, s180, s181, s182, s183, s184, s185, s186, s187, s188, s189, s190, s191, s192, s193, s194, s195, s196, s197, s198, s199, s200, s201, s202, s203, s204, s205, s206, s207, s208, s209, s210, s211, s212, s213, s214, s215, s216, s217, s218, s219, s220, s221, s222, s223, s224, s225, s226, s227, s228, s229, s230, s231, s232, s233, s234, s235, s236, s237, s238, s239, s240, s241, s242, s243, s244, s245, s246, s247, s248, s249, s250, s251, s252, s253, s254, s255, s256, s257, s258, s259, s260, s261, s262, s263, s264, s265, s266, s267, s268, s269, s270, s271, s272, s273, s274, s275, s276, s277, s278, s279, s280, s281, s282, s283, s284, s285, s286, s287, s288, s289, s290, s291, s292, s293, s294, s295, s296, s297, s298, s299, s300, s301, s302, s303, s304, s305, s306, s307, s308, s309, s310, s311, s312, s313, s314, s315, s316, s317, s318, s319, s320, s321, s322, s323, s324, s325, s326, s327, s328, s329, s330, s331, s332, s333, s334, s335, s336, s337, s338, s339, s340, s341, s342, s343, s344, s345, s346, s347, s348, s349, s350, s351, s352, s353, s354, s355, s356, s357, s358, s359, s360, s361, s362, s363, s364, s365, s366, s367, s368, s369, s370, s371, s372, s373, s374, s375, s376, s377, s378, s379, s380, s381, s382, s383, s384, s385, s386, s387, s388, s389, s390, s391, s392, s393, s394, s395, s396, s397, s398, s399, s400, s401, s402, s403, s404, s405, s406, s407, s408, s409, s410, s411, s412, s413, s414, s415, s416, s417, s418], []⟩ wc := by
  conv at hK => enter [a, z, 1, 2]; whnf
  conv => arg 2; whnf
  have x6 := r8V_lt gs 42 6 (by omega)
  have x64 := r8V_lt gs 43 64 (by omega)
  have HA42 := Lib.hid (fun z hz => HA.out z hz 42 6 (by omega) (by omega) (by omega))
  have HA43 := Lib.hid (fun z hz => HA.out z hz 43 64 (by omega) (by omega) (by omega))
  generalize r8V gs 42 6 = x42 at *
  generalize r8V gs 43 64 = x43 at *
  obtain ⟨m, hm⟩ : ∃ m, m = x42 + 1 := ⟨_, rfl⟩
  have em : (1 : Int) + (x42 : Int) = (m : Int) := by omega
  have m1 : 1 ≤ m := by omega
  have m7 : m < 7 := by omega
  have EM := Lib.hid em
  obtain ⟨rl1, rl2⟩ := ring_lit m m7 m1
  have HR := Lib.hid (fun z => impl_BitRing (m : Int) (by omega) (by omega) z)
  have hok : ok_BitRing (m : Int) = true := decide_eq_true (by omega)
  rw [hok, rl1] at HR
  obtain ⟨S, hS⟩ : ∃ S, S = 2 ^ m := ⟨_, rfl⟩
  have hS2 : 2 ≤ S ∧ S ≤ 64 := by rw [hS]; exact ringS m m7 m1
  have hshl : RowKit.wrap64 (2 ^ m) = (S : Int) := by rw [hS]; exact ringW m m7
  rw [← hS] at rl2
  have HS := Lib.hid hS
  have RL2 := Lib.hid rl2
  obtain ⟨x, hx⟩ : ∃ x, x = x43 % S := ⟨_, rfl⟩
  have hx1 : x < S := by rw [hx]; exact Nat.mod_lt _ (by omega)
  have hxe : (x43 : Int) % (S : Int) = (x : Int) := by rw [hx]; simp
  have HXE := Lib.hid hxe
  have hwrd := wrd_allB m m7 m1 x (by rw [← hS]; exact hx1)
  have HW := Lib.hid hwrd
  have HZ := Lib.hid (zero_all m m7 m1)
  have HB0 := Lib.hid hb0
  clear hb0 hm em hok rl1 rl2 hS hx hxe hwrd
  go_wp2_with fail
  refine (HA42.out _ HB0.out).mono ?_
  rintro e w' ⟨rfl, rfl⟩
  go_wp2_with fail
  rw [EM.out]
  refine (HR.out _).mono ?_
  rintro e w1 ⟨r, rfl, hr, hb1⟩
  have HSl := Lib.hid hr.sl
  obtain ⟨p1, cap1, rfl, hc1⟩ := hr
  rw [RL2.out] at hc1 HSl
  rw [RL2.out]
  obtain ⟨hcap1, b1, o1, rfl, -, hbl1, -, hcs1⟩ := hc1 (by omega)
  have HC1 := Lib.hid hcs1
  have HB1 := Lib.hid (HB0.out.trans (hb1.mono HB0.out.size))
  have hz1 := hb1.size
  clear hc1 hcs1 hb1 HR HA42
  go_upto_region 47 with fail
  rw [hshl]
  clear hshl
  go_wp2_with fail
  refine (HA43.out _ HB1.out).mono ?_
  rintro e w' ⟨rfl, rfl⟩
  have dz : ((S : Int) = 0) = False := eq_false (by omega)
  obtain ⟨i0, hi, hz0, hz1', hz2⟩ := info_parts (show (Try.prog.info? 2).map (fun i => (i.zero, i.size, i.bytes)) = some (some (.int .i64 0), 1, 8) by kernel_rfl)
  go_upto_region 50 with fail
  rw [HXE.out]
  clear HXE
  go_wp2_with fail
  have hx64 : x < 64 := by omega
  have HQ : Hid (∀ d, d < m → ((x : Int).fdiv (2 ^ d) = ((x / 2 ^ d : Nat) : Int) ∧ bits .and .i64 ((x / 2 ^ d : Nat) : Int) 1 = wordG m x (m - (d + 1)))) := Lib.hid (fun d hd => wordStep m x d hx64 hd)
  go_loopw [36, 37] (fun wd i wr => ∃ d : Nat, d ≤ m ∧ i = .int .i64 ((d : Int) - 1) ∧ wr.ownsRow w1.heap.size 2 1 wd (m - d) ((tab (m - d) (wordG m x)).map (Value.int .i64)) ∧ Below w1.heap.size w1 wr) (fun _ i _ => (intOf i + 1).toNat)
  case atStart => exact ⟨m, Nat.le_refl _, rfl, by rw [Nat.sub_self]; exact own_zero w1 _ _ _ (Nat.le_refl _), (Below.refl _ _).alloc (Nat.le_refl _) _⟩
  case round =>
    obtain ⟨d, hd, rfl, hown, hb⟩ := hrel
    have Hown := Lib.hid hown
    have Hb := Lib.hid hb
    have hsz := hb.size
    clear hown hb
    by_cases hlt : 1 ≤ d
    · obtain ⟨c, rfl⟩ : ∃ c, d = c + 1 := ⟨d - 1, by omega⟩
      rw [show ((c + 1 : Nat) : Int) - 1 = (c : Int) by omega]
      obtain ⟨hq, ha⟩ := HQ.out c (by omega)
      have Hq := Lib.hid hq
      generalize x / 2 ^ c = q at *
      have Ha := Lib.hid ha
      generalize hy : wordG m x (m - (c + 1)) = y at *
      have Hy := Lib.hid hy
      clear hy hq
      have hlen : m - (c + 1) < 7 := by omega
      go_wp2_with (first | (refine wpList_shrN rfl _ _ _ _ rfl (x : Int) c rfl rfl (by omega) (q : Int) Hq.out ?_) | (at_builtin; refine wpList_append_own _ rfl _ _ 22 rfl w1.heap.size 2 i0 (.int .i64 0) 1 8 (by kernel_rfl) hi hz0 hz1' hz2 rfl (by decide) _ _ _ rfl (Hown.out.alloc _) ⟨wr.heap.size, 0, none⟩ 1 1 [.int .i64 y] rfl rfl (cell_one_new _ _ _) (one_int _) (by unfold maxLen; omega) (by omega) (by simp; omega) ?_; intro vv w2 hown2 hgrow2 _))
      rw [← Hy.out] at hown2
      have Hown2 := Lib.hid (own_snoc hown2)
      have Hb2 := Lib.hid ((Hb.out.alloc (by omega) _).grown hgrow2 (by simp; omega) (fun b hb => (Hown.out.lt b hb).1))
      have hmc : m - (c + 1) + 1 = m - c := by omega
      rw [hmc] at Hown2
      clear hown2 hgrow2 hmc
      go_roundw
      case rel => exact ⟨c, by omega, by go_num, Hown2.out, Hb2.out⟩
      case measure => simp [intOf]
    · obtain rfl : 0 = d := by omega
      rw [Nat.sub_zero] at Hown
      have HWs := Lib.hid (Sw.of_owns (d := 0) Hown.out (tab_len _ _)).sl
      obtain ⟨A, hA1, hA2, hA3, hA4⟩ := wrd_facts m x S HS.out HW.out
      have HA3 := Lib.hid hA3
      have HA4 := Lib.hid hA4
      have HA1 := Lib.hid hA1
      clear hA3 hA4 hA1
      obtain ⟨hZ1, hZ2⟩ := HZ.out
      have HZ1 := Lib.hid hZ1
      have HZ2 := Lib.hid hZ2
      clear hZ1 hZ2 HZ HW
      have HB2 := Lib.hid (HB1.out.trans (Hb.out.mono (Nat.le_trans HB0.out.size hz1)))
      have hsl1 := Lib.hid (HSl.out.later Hb.out)
      have ht := Lib.hid (tab_len m (wordG m x))
      generalize tab m (wordG m x) = wd at *
      generalize ringL m = rg at *
      obtain ⟨p3, cap3, rfl, hc3⟩ := id HWs.out
      rw [ht.out] at hc3 HWs Hown ⊢
      have HW1 := Lib.hid (impl_WordAt rg _ wd _ wr (by rw [RL2.out]; omega) hsl1.out (by rw [ht.out]; omega) HWs.out)
      rw [HA1.out, HA3.out] at HW1
      have HW2 := Lib.hid (fun z (v3 : Value) (hz : Below wr.heap.size wr z) (h3 : Sl (Value.int .i64) 0 z v3 (List.replicate m 0)) => impl_WordAt rg _ (List.replicate m 0) v3 z (by rw [RL2.out]; omega) (hsl1.out.later hz) (by simp; omega) h3)
      rw [HZ1.out, HZ2.out] at HW2
      clear HZ1 HZ2
      go_wp2_with fail
      refine HW1.out.mono ?_
      rintro e w2 ⟨rfl, hb2⟩
      have hz2b := hb2.size
      have HB3 := Lib.hid hb2
      clear hb2 HW1
      go_wp2_with (at_make; refine wpList_make_full _ rfl _ _ 22 rfl w2.heap.size 2 i0 (.int .i64 0) 1 (by kernel_rfl) hi hz0 hz1' .i64 .i64 m m m rfl rfl rfl rfl (by rw [hz2]; omega) (by unfold maxLen; omega) (Nat.le_refl _) ?_; intro w3 hown3 hgrow3)
      have hbel3 : Below w2.heap.size w2 w3 := (Below.refl _ w2).grown hgrow3 (Nat.le_refl _) (by simp)
      have e3 : (madeCells (Value.int .i64 0).cells (m * 1)).toList = (List.replicate m (0 : Int)).map (Value.int .i64) := by
        rw [Nat.mul_one, List.map_replicate]
        exact made1 _ m
      rw [e3] at hown3
      have hs3 := (Sw.of_owns (d := 0) hown3 (by simp)).sl
      have hb3 := HB3.out.trans (hbel3.mono hz2b)
      refine (HW2.out w3 _ hb3 hs3).mono ?_
      rintro e w4 ⟨rfl, hb4⟩
      have hz3 := hbel3.size
      have hz4 := hb4.size
      have HB4 := Lib.hid (hb3.trans (hb4.mono (Nat.le_trans hz2b hz3)))
      clear hb3 hs3 hbel3 e3 hown3 hgrow3 hb4 HB3 HW2
      have HB5 := Lib.hid (HB2.out.trans (HB4.out.mono HB2.out.size))
      obtain ⟨hcp, b2, o2, rfl, hbl2, hcs2⟩ := hc3 (by omega)
      have HC2 := Lib.hid hcs2
      clear hcs2 hc3
      have HC1' := Lib.hid (fun i hi => ((Hb.out.trans (HB4.out.mono hsz)).cell (p := ⟨b1, o1 + i, none⟩) hbl1).trans (HC1.out i hi).1)
      have HC2' := Lib.hid (fun i hi => (HB4.out.cell (p := ⟨b2, o2 + i, none⟩) hbl2).trans (HC2.out i hi))
      clear HC1 HC2 HWs hsl1 HSl Hown Hb HB2 HB1 HB4 HQ
      go_wp2_with fail
      go_loopw [42] (fun i wr => ∃ k : Nat, k ≤ m ∧ i = .int .i64 (k : Int) ∧ Below w4.heap.size w4 wr) (fun i _ => m - (intOf i).toNat)
      case atStart => exact ⟨0, Nat.zero_le _, rfl, Below.refl _ _⟩
      case round =>
        obtain ⟨k, hk, rfl, hb6⟩ := hrel
        have Hb6 := Lib.hid hb6
        clear hb6
        by_cases hlk : k < m
        · obtain ⟨y, hy⟩ : ∃ y, y = (A + k) % S := ⟨_, rfl⟩
          have hyS : y < S := by rw [hy]; exact Nat.mod_lt _ (by omega)
          have hye : ((A : Int) + (k : Int)) % (S : Int) = (y : Int) := by rw [hy]; simp
          have hv := HA4.out k hlk
          rw [← hy] at hv
          have c1 := (Hb6.out.cell (p := ⟨b1, o1 + y, none⟩) (by show b1 < _; omega)).trans (HC1'.out y hyS)
          have c2 := (Hb6.out.cell (p := ⟨b2, o2 + k, none⟩) (by show b2 < _; omega)).trans (HC2'.out k hlk)
          rw [hv] at c1
          clear hy hv
          generalize wd.getD k 0 = z at *
          go_wp2_with fail
          go_quiet (fail)
          go_wp2
          go_roundw
          case rel => exact ⟨k + 1, by omega, by go_num, below_drewN Hb6.out _⟩
          case measure => simp [intOf]; omega
        · obtain rfl : m = k := by omega
          have HB7 := HB5.out.trans (Hb6.out.mono HB5.out.size)
          have HA' := HA.out
          go_upto_region 64 with fail
          refine stageD gs v v2 w _ _ _ _ _ _ _ _ _ _ _ _ _ _ _ _ _ _ _ _ _ _ _ _ _ _ _ _ _ _ _ _ _ _ _ _ _ _ _ _ _ _ _ _ _ _ _ _ _ _ _ _ _ _ _ _ _ _ _ _ _ _ _ _ _ _ _ _ _ _ _ _ _ _ _ _ _ _ _ _ _ _ _ _ _ _ _ _ _ _ _ _ _ _ _ _ _ _ _ _ _ _ _ _ _ _ _ _ _ _ _ _ _ _ _ _ _ _ _ _ _ _ _ _ _ _ _ _ _ _ _ _ _ _ _ _ _ _ _ _ _ _ _ _ _ _ _ _ _ _ _ _ _ _ _ _ _ _ _ _ _ _ _ _ _ _ _ _ _ _ _ _ _ _ _ _ _ _ _ _ _ _ _ _ _ _ _ _ _ _ _ _ _ _ _ _ _ _ _ _ _ _ _ _ _ _ _ _ _ _ _ _ _ _ _ _ _ _ _ _ _ _ _ _ _ _ _ _ _ _ _ _ _ _ _ _ _ _ _ _ _ _ _ _ _ _ _ _ _ _ _ _ _ _ _ _ _ _ _ _ _ _ _ _ _ _ _ _ _ _ _ _ _ _ _ _ _ _ _ _ _ _ _ _ _ _ _ _ _ _ _ _ _ _ _ _ _ _ _ _ _ _ _ _ _ _ _ _ _ _ _ _ _ _ _ _ _ _ _ _ _ _ _ _ _ _ _ _ _ _ _ _ _ _ _ _ _ _ _ _ _ _ _ _ _ _ _ _ _ _ _ _ _ _ _ _ _ _ _ _ _ _ _ _ _ _ _ _ _ _ _ _ _ _ _ _ _ _ _ _ _ _ _ _ _ _ _ _ _ _ _ _ _ _ _ _ _ _ _ _ _ _ _ _ _ _ _ _ _ _ _ _ _ _ _ _ _ _ _ (by assumption) (Lib.hid HA') HB7
end Go.Proofs.Ytolmhnekfokpdac
