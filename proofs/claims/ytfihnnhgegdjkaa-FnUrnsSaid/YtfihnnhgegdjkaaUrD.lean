/- The law of urns: runs and votes. -/
import Derived.Test.YtfihnnhgegdjkaaUrC
import Derived.Test.YtfihnnhgegdjkaaHpD
set_option linter.unusedVariables false
namespace Go.Proofs.Ytfihnnhgegdjkaa
open Go.RowKit Fl Ieee


theorem fold_sum (g : Nat → Int) : ∀ n, (List.range n).foldl (fun s k => s + g k) 0 = sumI g n
  | 0 => rfl
  | n + 1 => by
    rw [List.range_succ, List.foldl_append, fold_sum g n]; rfl
theorem sumI_bd8 (g : Nat → Int) (n : Nat) (h : ∀ k, k < n → 0 ≤ g k ∧ g k ≤ 100000000) : ∀ k, k ≤ n → 0 ≤ sumI g k ∧ sumI g k ≤ 100000000 * (k : Int)
  | 0, _ => by show (0 : Int) ≤ 0 ∧ (0 : Int) ≤ _; omega
  | k + 1, hk => by
    have a := sumI_bd8 g n h k (by omega)
    have b := h k (by omega)
    show 0 ≤ sumI g k + g k ∧ sumI g k + g k ≤ _
    omega
theorem runs_facts {o z : Nat} (h : runsB o z = true) : sumI (fun k => res_RunWays (o : Int) (z : Int) (k : Int)) (o + z + 1) = ((chN z o : Nat) : Int) ∧ (∀ k, k < o + z + 1 → 0 ≤ res_RunWays (o : Int) (z : Int) (k : Int) ∧ res_RunWays (o : Int) (z : Int) (k : Int) ≤ 100000000) ∧ (∀ i, i < o + 1 → chN z i ≤ 100000000) ∧
    (1 ≤ res2_BallotChance (o : Int) (z : Int) ∧ res2_BallotChance (o : Int) (z : Int) ≤ 1000) ∧ (0 ≤ res_BallotChance (o : Int) (z : Int) ∧ res_BallotChance (o : Int) (z : Int) ≤ 1000) ∧ ((ballotN o z : Nat) : Int) * res2_BallotChance (o : Int) (z : Int) = res_BallotChance (o : Int) (z : Int) * ((chN z o : Nat) : Int) ∧ ballotN o z ≤ ballotN (o + 1) z ∧ ballotN o z ≤ 100000000 := by
  unfold runsB at h
  simp only [Bool.and_eq_true, decide_eq_true_eq, beq_iff_eq, List.all_eq_true, List.mem_range] at h
  obtain ⟨⟨⟨⟨⟨⟨⟨⟨⟨h1, h2⟩, h3⟩, h4⟩, h5⟩, h6⟩, h7⟩, h8⟩, h9⟩, h10⟩ := h
  rw [fold_sum (fun k => res_RunWays (o : Int) (z : Int) (k : Int))] at h1
  exact ⟨h1, h2, h3, ⟨h4, h5⟩, ⟨h6, h7⟩, h8, h9, h10⟩
theorem chN_I (z i : Nat) : ((chN z i : Nat) : Int) * ((z : Int) + ((i : Int) + 1)) / ((i : Int) + 1) = ((chN z (i + 1) : Nat) : Int) := by
  show _ = ((chN z i * (z + (i + 1)) / (i + 1) : Nat) : Int)
  rw [Int.natCast_ediv, Int.natCast_mul, Int.natCast_add, Int.natCast_add]; rfl

def tailN : Nat → Code → Code
  | 0, c => c
  | n + 1, .seq _ b => tailN n b
  | _ + 1, c => c
def headN (n : Nat) (c : Code) : Code := match tailN n c with
  | .seq a _ => a
  | c => c
noncomputable def fnBody : Code := (Try.f4.body).getD .skip

set_option maxRecDepth 1000000 in
set_option maxHeartbeats 16000000 in
theorem stageC (v v2 : Value) (o z0 : Nat) (w wr : World) (s2 s3 s4 s5 s6 s7 s8 s9 s10 s11 s12 s13 s14 s15 s16 s17 s18 s19 s20 s21 s22 s23 s24 s25 s26 s27 s28 s29 s30 s31 s32 s33 s34 s35 s36 s37 s38 s39 s40 s41 s42 s43 s44 s45 s46 s47 s48 s49 s50 s51 s52 s53 s54 s55 s56 s57 s58 s59 s60 s61 s62 s63 s64 s65 s66 s67 s68 s69 s70 s71 s72 s73 s74 s75 s76 s77 s78 s79 s80 s81 s82 s83 s84 s85 s86 s87 s88 s89 s90 s91 s92 s93 s94 s95 s96 s97 s98 s99 s100 s101 s102 s103 s104 s105 s106 s107 s108 s109 s110 s111 s112 s113 s114 s115 s116 s117 s118 s119 s120 s121 s122 s123 s124 s125 s126 s127 s128 s129 s130 s131 s132 s133 s134 s135 s136 s137 s138 s139 s140 s141 s142 s143 s144 s145 s146 s147 s148 s149 s150 s151 s152 s153 s154 s155 s156 s157 s158 s159 s160 s161 s162 s163 s164 s165 s166 s167 s168 s169 s170 s171 s172 s173 s174 s175 s176 s177 s178 s179 s180 s181 s182 s183 s184 s185 s186 s187 s188 s189 s190 s191 s192 s193 s194 s195 s196 s197 s198 s199 s200 s201 s202 s203 s204 s205 s206 s207 s208 s209 s210 s211 s212 s213 s214 s215 s216 s217 s218 s219 s220 s221 s222 s223 s224 s225 s226 s227 s228 s229 s230 s231 s232 s233 s234 s235 s236 s237 s238 s239 s240 s241 s242 s243 s244 s245 s246 s247 s248 s249 s250 s251 s252 s253 s254 s255 s256 s257 s258 s259 s260 s261 s262 s263 s264 s265 s266 s267 s268 s269 s270 s271 s272 s273 s274 s275 s276 s277 s278 s279 s280 s281 s282 s283 s284 s285 s286 s287 s288 s289 s290 s291 s292 s293 s294 s295 s296 s297 s298 s299 s300 s301 s302 s303 s304 s305 s306 s307 s308 s309 s310 s311 s312 s313 s314 s315 s316 s317 s318 s319 s320 s321 s322 s323 s324 s325 s326 s327 s328 s329 s330 s331 s332 s333 s334 s335 s336 s337 s338 s339 s340 s341 s342 s343 s344 s345 s346 s347 s348 s349 s350 s351 s352 : Value) (K : Act → World → Prop)
    (hK : ∀ a z, Code.wp Try.prog (tailN 14 fnBody) (bodyPost Try.prog Try.f4 fun e w' => e = Ending.returned (Value.bool true) ∧ Below w.heap.size w w') a z → K a z)
    (hW : Below w.heap.size w wr) (ho : o < 12) (hz0 : z0 < 12)
    (H44 : Hid (∀ z, Below w.heap.size w z → Calls Try.prog 6 #[v2, .int .i64 ((44 : Nat) : Int), .int .i64 ((12 : Nat) : Int)] z fun e w' => e = .returned (.int .i64 ((o : Nat) : Int)) ∧ z = w'))
    (H45 : Hid (∀ z, Below w.heap.size w z → Calls Try.prog 6 #[v2, .int .i64 ((45 : Nat) : Int), .int .i64 ((12 : Nat) : Int)] z fun e w' => e = .returned (.int .i64 ((z0 : Nat) : Int)) ∧ z = w')) :
    Code.wp Try.prog (headN 13 fnBody) (Exit.then K (bodyPost Try.prog Try.f4 fun e w' => e = Ending.returned (Value.bool true) ∧ Below w.heap.size w w')) ⟨#[v, v2, s2, s3, s4, s5, s6, s7, s8, s9, s10, s11, s12, s13, s14, s15, s16, s17, s18, s19, s20, s21, s22, s23, s24, s25, s26, s27, s28, s29, s30, s31, s32, s33, s34, s35, s36, s37, s38, s39, s40, s41, s42, s43, s44, s45, s46, s47, s48, s49, s50, s51, s52, s53, s54, s55, s56, s57, s58, s59, s60, s61, s62, s63, s64, s65, s66, s67, s68, s69, s70, s71, s72, s73, s74, s75, s76, s77, s78, s79, s80, s81, s82, s83, s84, s85, s86, s87, s88, s89, s90, s91, s92, s93, s94, s95, s96, s97, s98, s99, s100, s101, s102, s103, s104, s105, s106, s107, s108, s109, s110, s111, s112, s113, s114, s115, s116, s117, s118, s119, s120, s121, s122, s123, s124, s125, s126, s127, s128, s129, s130, s131, s132, s133, s134, s135, s136, s137, s138, s139, s140, s141, s142, s143, s144, s145, s146, s147, s148, s149, s150, s151, s152, s153, s154, s155, s156, s157, s158, s159, s160, s161, s162, s163, s164, s165, s166, s167, s168, s169, s170, s171, s172, s173, s174, s175, s176, s177, s178, s179, s180, s181, s182, s183, s184, s185, s186, s187, s188, s189, s190, s191, s192, s193, s194, s195, s196, s197, s198, s199, s200, s201, s202, s203, s204, s205, s206, s207, s208, s209, s210, s211, s212, s213, s214, s215, s216, s217, s218, s219, s220, s221, s222, s223, s224, s225, s226, s227, s228, s229, s230, s231, s232, s233, s234, s235, s236, s237, s238, s239, s240, s241, s242, s243, s244, s245, s246, s247, s248, s249, s250, s251, s252, s253, s254, s255, s256, s257, s258, s259, s260, s261, s262, s263, s264, s265, s266, s267, s268, s269, s270, s271, s272, s273, s274, s275, s276, s277, s278, s279, s280, s281, s282, s283, s284, s285, s286, s287, s288, s289, s290, s291, s292, s293, s294, s295, s296, s297, s298, s299, s300, s301, s302, s303, s304, s305, s306, s307, s308, s309, s310, s311, s312, s313, s314, s315, s316, s317, s318, s319, s320, s321, s322, s323, s324, s325, s326, s327, s328, s329, s330, s331, s332, s333, s334, s335, s336, s337, s338, s339, s340, s341, s342, s343, s344, s345, s346, s347, s348, s349, s350, s351, s352], []⟩ wr := by
  conv at hK => enter [a, z, 1, 2]; whnf
  conv => arg 2; whnf
  have hwz := hW.size
  obtain ⟨z, hz⟩ : ∃ z, z = z0 + 1 := ⟨_, rfl⟩
  have Ez := Lib.hid (show (1 : Int) + (z0 : Int) = (z : Int) by omega)
  have hz1 : 1 ≤ z := by omega
  have hz2 : z ≤ 12 := by omega
  have ht := rn_tab o ho z0 hz0
  rw [← hz] at ht
  obtain ⟨s1, s2, s3, ⟨s4, s5⟩, ⟨s6, s7⟩, s8, s9, s10⟩ := runs_facts ht
  have HR := Lib.hid (fun (k : Nat) (hk : k < o + z + 1) x => impl_RunWays (o : Int) (by omega) (by omega) (z : Int) (by omega) (by omega) (k : Int) (by omega) (by omega) x)
  have hok : Hid (∀ k : Nat, ok_RunWays (o : Int) (z : Int) (k : Int) = true) := Lib.hid fun k => by unfold ok_RunWays okRW; exact decide_eq_true (by omega)
  have HBC := Lib.hid (fun x => impl_BallotChance (o : Int) (by omega) (by omega) (z : Int) (by omega) (by omega) x)
  have hbc : ok_BallotChance (o : Int) (z : Int) = true := by unfold ok_BallotChance okBC; exact decide_eq_true (by omega)
  rw [hbc] at HBC
  have HW1 := Lib.hid (fun x => ballot_any o z false (by omega) hz1 hz2 x)
  have HW2 := Lib.hid (fun x => ballot_any o z true (by omega) hz1 hz2 x)
  have HW3 := Lib.hid (fun x => ballot_any (o + 1) z false (by omega) hz1 hz2 x)
  simp only [Bool.false_eq_true, if_false, if_true] at HW1 HW2 HW3
  have Eo := Lib.hid (show (o : Int) + 1 = ((o + 1 : Nat) : Int) by omega)
  have HS := Lib.hid s1
  have HBd := Lib.hid (sumI_bd8 (fun k => res_RunWays (o : Int) (z : Int) (k : Int)) (o + z + 1) s2)
  have HSs := Lib.hid (fun k => show sumI (fun k => res_RunWays (o : Int) (z : Int) (k : Int)) (k + 1) = sumI (fun k => res_RunWays (o : Int) (z : Int) (k : Int)) k + res_RunWays (o : Int) (z : Int) (k : Int) from rfl)
  have HS0 := Lib.hid (show sumI (fun k => res_RunWays (o : Int) (z : Int) (k : Int)) 0 = 0 from rfl)
  have HN := Lib.hid s2
  have HC0 := Lib.hid (show chN z 0 = 1 from rfl)
  have HCs := Lib.hid (fun i => chN_I z i)
  have HCb := Lib.hid s3
  clear ht s1 s2 s3 hbc hz
  generalize sumI (fun k => res_RunWays (o : Int) (z : Int) (k : Int)) = SM at *
  generalize res_RunWays (o : Int) (z : Int) = RW at *
  generalize chN z = CH at *
  generalize res_BallotChance (o : Int) (z : Int) = BX at *
  generalize res2_BallotChance (o : Int) (z : Int) = BY at *
  generalize ballotN o z = B0 at *
  generalize ballotN (o + 1) z = B1 at *
  go_wp2_with fail
  refine (H44.out _ hW).mono ?_
  rintro e w' ⟨rfl, rfl⟩
  go_wp2_with fail
  refine (H45.out _ hW).mono ?_
  rintro e w' ⟨rfl, rfl⟩
  go_upto_region 38 with fail
  rw [Ez.out]
  obtain ⟨wo, rfl⟩ : ∃ x, x = wr := ⟨_, rfl⟩
  go_wp2_with fail
  go_loopw [31, 32] (fun d i wz => ∃ k : Nat, k ≤ o + z + 1 ∧ d = .int .i64 (SM k) ∧ i = .int .i64 (k : Int) ∧ Hid (Below w.heap.size w wz)) (fun _ i _ => o + z + 1 - (intOf i).toNat)
  case atStart => exact ⟨0, Nat.zero_le _, by rw [HS0.out], rfl, Lib.hid hW⟩
  case round =>
    obtain ⟨k, hk, rfl, rfl, hB⟩ := hrel
    have hbz := hB.out.size
    by_cases hlt : k < o + z + 1
    · have HE := Lib.hid (HSs.out k)
      have hb1 := HBd.out k (by omega)
      have hb2 := HBd.out (k + 1) (by omega)
      rw [HE.out] at hb2
      obtain ⟨hn0, hn1⟩ := HN.out k hlt
      obtain ⟨hb10, hb11⟩ := hb1
      obtain ⟨hb20, hb21⟩ := hb2
      have HC := Lib.hid (HR.out k hlt wr)
      rw [hok.out k] at HC
      have d1 : decide ((k : Int) ≤ (o : Int) + (z : Int)) = true := decide_eq_true (by omega)
      have d2 : decide (RW (k : Int) < 0) = false := decide_eq_false (by omega)
      clear HSs HBd HN HR hok s8
      generalize RW (k : Int) = x at *
      generalize SM k = Sk at *
      go_wp2_with fail
      refine HC.out.mono ?_
      rintro e w1 ⟨rfl, hb⟩
      have HB1 := Lib.hid (hB.out.trans (hb.mono hbz))
      clear hb
      go_wp2
      go_roundw
      case rel => exact ⟨k + 1, by omega, by rw [HE.out], by go_num, HB1⟩
      case measure => simp [intOf]; omega
    · obtain rfl : k = o + z + 1 := by omega
      have d1 : decide (((o + z + 1 : Nat) : Int) ≤ (o : Int) + (z : Int)) = false := decide_eq_false (by omega)
      have d2 : decide ((o : Int) + (z : Int) + 1 ≤ (o : Int) + (z : Int)) = false := decide_eq_false (by omega)
      rw [HS.out]
      obtain ⟨wp, rfl⟩ : ∃ x, x = wr := ⟨_, rfl⟩
      clear HR hok HSs HBd HN HS HS0
      go_wp2_with fail
      go_loopw [35, 36] (fun d i wz => ∃ j : Nat, j ≤ o ∧ d = .int .i64 ((CH j : Nat) : Int) ∧ i = .int .i64 ((j : Int) + 1) ∧ Hid (wz = wp)) (fun _ i _ => o + 1 - (intOf i).toNat)
      case atStart => exact ⟨0, Nat.zero_le _, by rw [HC0.out]; rfl, rfl, Lib.hid rfl⟩
      case round =>
        obtain ⟨j, hj, rfl, rfl, hw⟩ := hrel
        obtain rfl := hw.out
        by_cases hlj : j < o
        · have HE := Lib.hid (HCs.out j)
          have hc1 := HCb.out j (by omega)
          have d3 : decide ((j : Int) + 1 ≤ (o : Int)) = true := decide_eq_true (by omega)
          have d3' : decide (j + 1 ≤ o) = true := decide_eq_true (by omega)
          have dz : ((j : Int) + 1 = 0) = False := eq_false (by omega)
          have k1 : 0 ≤ ((CH j : Nat) : Int) * ((z : Int) + ((j : Int) + 1)) := Int.mul_nonneg (by omega) (by omega)
          have k2 : ((CH j : Nat) : Int) * ((z : Int) + ((j : Int) + 1)) ≤ 100000000 * 30 := Int.mul_le_mul (by omega) (by omega) (by omega) (by omega)
          clear HCs HCb s8
          generalize hCn : CH (j + 1) = Cn at *
          have HCn := Lib.hid hCn
          clear hCn
          generalize CH j = Cj at *
          go_wp2
          go_roundw
          case rel => exact ⟨j + 1, by omega, by rw [HCn.out, ← HE.out], by go_num, Lib.hid (by first | trivial | rfl)⟩
          case measure => simp [intOf]; omega
        · obtain rfl : j = o := by omega
          have d3 : decide ((j : Int) + 1 ≤ (j : Int)) = false := decide_eq_false (by omega)
          have d3' : decide (j + 1 ≤ j) = false := decide_eq_false (by omega)
          have hc1 := HCb.out j (by omega)
          generalize CH j = Cj at *
          clear HCs HCb
          have nb : (((Cj : Nat) : Int) == ((Cj : Nat) : Int)) = true := by simp
          have k1 : 0 ≤ (B0 : Int) * BY := Int.mul_nonneg (by omega) (by omega)
          have k2 : (B0 : Int) * BY ≤ 100000000 * 1000 := Int.mul_le_mul (by omega) s5 (by omega) (by omega)
          have k3 : 0 ≤ BX * (Cj : Int) := Int.mul_nonneg s6 (by omega)
          have k4 : BX * (Cj : Int) ≤ 1000 * 100000000 := Int.mul_le_mul s7 (by omega) (by omega) (by omega)
          have nm : ((B0 : Int) * BY == BX * (Cj : Int)) = true := by rw [beq_iff_eq]; exact s8
          have nm2 : ((B0 : Int) * BY = BX * (Cj : Int)) = True := eq_true s8
          have d4 : decide (1 ≤ BY) = true := decide_eq_true s4
          have d5 : decide (B0 ≤ B1) = true := decide_eq_true s9
          have nn : ((B1 : Int) == (B1 : Int)) = true := by simp
          have H8 := Lib.hid s8
          clear s8
          go_wp2_with fail
          refine (HBC.out _).mono ?_
          rintro e w1 ⟨rfl, hb1⟩
          have HB1 := Lib.hid (hB.out.trans (hb1.mono hbz))
          clear hb1
          go_wp2_with fail
          refine (HW1.out _).mono ?_
          rintro e w' ⟨rfl, rfl⟩
          go_wp2_with fail
          refine (HW2.out _).mono ?_
          rintro e w' ⟨rfl, rfl⟩
          go_wp2_with fail
          rw [Eo.out]
          refine (HW3.out _).mono ?_
          rintro e w' ⟨rfl, rfl⟩
          go_wp2
          go_ret
          exact ⟨rfl, HB1.out⟩
end Go.Proofs.Ytfihnnhgegdjkaa
