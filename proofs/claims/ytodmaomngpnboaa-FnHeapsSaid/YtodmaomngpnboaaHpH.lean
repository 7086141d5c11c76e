/- The law of heaps: each number of things. -/
import Derived.Test.YtodmaomngpnboaaHpG
import Derived.Deep.RegionHeld3
import Derived.Deep.RegionLawGrows
import Derived.Deep.AppendLies
import Derived.WalkSpells
import Derived.StillTactics
set_option linter.unusedVariables false
namespace Go.Proofs.Ytodmaomngpnboaa
open Go.RowKit
attribute [local go_sem] Oper.semAt_some

def restN : Code → Code
  | .seq _ b => b
  | c => c
theorem valS_bd (k n : Nat) (h : k < n) : 0 ≤ (valS n).getD k 0 ∧ (valS n).getD k 0 ≤ 2 * (k : Int) := by
  rw [valS_at k n h]
  have h1 := mexN_le (leftA (valS k) k)
  have h2 := accA_len (valS k) k 2
  rw [accA_two] at h2
  omega
theorem spL_one (vs : List Int) (k i : Nat) (h : ¬ i + 1 < k) : spL vs k (i + 1) = spL vs k i ++ [bits .xor .i64 (vs.getD i 0) (vs.getD (k - 1 - i) 0)] := by rw [spL, if_neg h, List.append_nil]
theorem spL_two (vs : List Int) (k i : Nat) (h : i + 1 < k) : spL vs k (i + 1) = (spL vs k i ++ [bits .xor .i64 (vs.getD i 0) (vs.getD (k - 1 - i) 0)]) ++ [bits .xor .i64 (vs.getD i 0) (vs.getD (k - 2 - i) 0)] := by rw [spL, if_pos h]

set_option maxRecDepth 1000000 in
set_option maxHeartbeats 16000000 in
theorem stageO (gs ms : List Int) (v v2 : Value) (n ml h4 cm cv cr : Nat) (pm pv pr : Option Addr) (w wr : World) (s2 s3 s4 s6 s7 s10 s12 s13 s14 s15 s16 s17 s18 s19 s20 s21 s22 s23 s24 s25 s26 s27 s28 s29 s30 s31 s32 s33 s34 s35 s36 s37 s38 s39 s40 s41 s42 s43 s44 s45 s46 s47 s48 s49 s50 s51 s52 s53 s54 s55 s56 s57 s58 s59 s60 s61 s62 s63 s64 s65 s66 s67 s68 s69 s70 s71 s72 s73 s74 s75 s76 s77 s78 s79 s80 s81 s82 s83 s84 s85 s86 s87 s88 s89 s90 s91 s92 s93 s94 s95 s96 s97 s98 s99 s100 s101 s102 s103 s104 s105 s106 s107 s108 s109 s110 s111 s112 s113 s114 s115 s116 s117 s118 s119 s120 s121 s122 s123 s124 s125 s126 s127 s128 s129 s130 s131 s132 s133 s134 s135 s136 s137 s138 s139 s140 s141 s142 s143 s144 s145 s146 s147 s148 s149 s150 s151 s152 s153 s154 s155 s156 s157 s158 s159 s160 s161 s162 s163 s164 s165 s166 s167 s168 s169 s170 s171 s172 s173 s174 s175 s176 s177 s178 s179 s180 s181 s182 s183 s184 s185 s186 s187 s188 s189 s190 s191 s192 s193 s194 s195 s196 s197 s198 s199 s200 s201 s202 s203 s204 s205 s206 s207 s208 s209 s210 s211 s212 s213 s214 s215 s216 s217 s218 s219 s220 s221 s222 s223 s224 s225 s226 s227 s228 s229 s230 s231 s232 s233 s234 s235 s236 s237 s238 s239 s240 s241 s242 s243 s244 s245 s246 s247 s248 s249 s250 s251 s252 s253 s254 s255 s256 s257 s258 s259 s260 s261 s262 s263 s264 s265 s266 s267 s268 s269 s270 s271 s272 s273 s274 s275 s276 s277 s278 s279 s280 s281 s282 s283 s284 s285 s286 s287 s288 s289 s290 s291 s292 s293 s294 s295 s296 s297 s298 s299 s300 s301 s302 s303 s304 s305 s306 s307 s308 : Value) (K : Act → World → Prop)
    (hK : ∀ a z, Code.wp Try.prog (tailN 10 fnBody) (bodyPost Try.prog Try.f6 fun e w' => e = Ending.returned (Value.bool true) ∧ Below w.heap.size w w') a z → K a z)
    (hW : Below w.heap.size w wr) (hms : Sl (Value.int .i64) 0 wr (.slice pm ml cm) ms) (hvs : Sl (Value.int .i64) 0 wr (.slice pv (n + 1) cv) (valT ms (n + 1))) (hrs : Sl (Value.int .i64) 0 wr (.slice pr (n + 1) cr) (valS (n + 1))) (hml : ms.length = ml) (hmo : movB ms = true) (hm4 : ml ≤ 4) (hm0 : 1 ≤ ml) (hn : n < 30)
    (h0 : h4 < 4)
    (HH : Hid (∀ z, Below w.heap.size w z → Calls Try.prog 37 #[v2, .int .i64 ((42 : Nat) : Int), .int .i64 ((4 : Nat) : Int)] z fun e w' => e = .returned (.int .i64 ((h4 : Nat) : Int)) ∧ z = w'))
    (HX : Hid (∀ z k, k ≤ 1000 → Below w.heap.size w z → Calls Try.prog 37 #[v2, .int .i64 ((k : Nat) : Int), .int .i64 ((n + 1 : Nat) : Int)] z fun e w' => e = .returned (.int .i64 ((r8V gs k (n + 1) : Nat) : Int)) ∧ z = w')) :
    Code.wp Try.prog (headN 9 fnBody) (Exit.then K (bodyPost Try.prog Try.f6 fun e w' => e = Ending.returned (Value.bool true) ∧ Below w.heap.size w w')) ⟨#[v, v2, s2, s3, s4, .slice pm ml cm, s6, s7, .int .i64 (n : Int), .slice pv (n + 1) cv, s10, .slice pr (n + 1) cr, s12, s13, s14, s15, s16, s17, s18, s19, s20, s21, s22, s23, s24, s25, s26, s27, s28, s29, s30, s31, s32, s33, s34, s35, s36, s37, s38, s39, s40, s41, s42, s43, s44, s45, s46, s47, s48, s49, s50, s51, s52, s53, s54, s55, s56, s57, s58, s59, s60, s61, s62, s63, s64, s65, s66, s67, s68, s69, s70, s71, s72, s73, s74, s75, s76, s77, s78, s79, s80, s81, s82, s83, s84, s85, s86, s87, s88, s89, s90, s91, s92, s93, s94, s95, s96, s97, s98, s99, s100, s101, s102, s103, s104, s105, s106, s107, s108, s109, s110, s111, s112, s113, s114, s115, s116, s117, s118, s119, s120, s121, s122, s123, s124, s125, s126, s127, s128, s129, s130, s131, s132, s133, s134, s135, s136, s137, s138, s139, s140, s141, s142, s143, s144, s145, s146, s147, s148, s149, s150, s151, s152, s153, s154, s155, s156, s157, s158, s159, s160, s161, s162, s163, s164, s165, s166, s167, s168, s169, s170, s171, s172, s173, s174, s175, s176, s177, s178, s179, s180, s181, s182, s183, s184, s185, s186, s187, s188, s189, s190, s191, s192, s193, s194, s195, s196, s197, s198, s199, s200, s201, s202, s203, s204, s205, s206, s207, s208, s209, s210, s211, s212, s213, s214, s215, s216, s217, s218, s219, s220, s221, s222, s223, s224, s225, s226, s227, s228, s229, s230, s231, s232, s233, s234, s235, s236, s237, s238, s239, s240, s241, s242, s243, s244, s245, s246, s247, s248, s249, s250, s251, s252, s253, s254, s255, s256, s257, s258, s259, s260, s261, s262, s263, s264, s265, s266, s267, s268, s269, s270, s271, s272, s273, s274, s275, s276, s277, s278, s279, s280, s281, s282, s283, s284, s285, s286, s287, s288, s289, s290, s291, s292, s293, s294, s295, s296, s297, s298, s299, s300, s301, s302, s303, s304, s305, s306, s307, s308], []⟩ wr := by
  conv at hK => enter [a, z, 1, 2]; whnf
  conv => arg 2; whnf
  have hwz := hW.size
  have HTF := Lib.hid (fun k (hk : k < n + 1) => take_facts ms k (n + 1) hk (fun i hi => (mov_one hmo i hi).1))
  have HRF := Lib.hid (fun k (hk : k < n + 1) => row_facts k (n + 1) hk)
  have HTB := Lib.hid (fun k (hk : k < n + 1) => valT_bd ms (by omega) k (n + 1) hk)
  have HRB := Lib.hid (fun k (hk : k < n + 1) => valS_bd k (n + 1) hk)
  have HM1 := Lib.hid (mov_one hmo)
  rw [hml] at HTF HM1
  have HLL := Lib.hid (fun k i => leftT_len ms (valT ms (n + 1)) k i)
  have HLy := Lib.hid (fun k i => leftT_yes ms (valT ms (n + 1)) k i)
  have HLn := Lib.hid (fun k i => leftT_no ms (valT ms (n + 1)) k i)
  have HL0 := Lib.hid (fun k => show leftT ms (valT ms (n + 1)) k 0 = [] from rfl)
  have HSL := Lib.hid (fun k i => spL_len (valS (n + 1)) k i)
  have HS1 := Lib.hid (fun k i => spL_one (valS (n + 1)) k i)
  have HS2 := Lib.hid (fun k i => spL_two (valS (n + 1)) k i)
  have HS0 := Lib.hid (fun k => show spL (valS (n + 1)) k 0 = [] from rfl)
  have Hmo := Lib.hid hmo
  have Hml := Lib.hid hml
  have Hms := Lib.hid hms
  have Hvs := Lib.hid hvs
  obtain ⟨qv, qc, eqv, hvc⟩ := hvs
  rw [valT_len] at eqv hvc
  cases eqv
  obtain ⟨hcap, bv, ov, rfl, hbv, hcv⟩ := hvc (by omega)
  obtain ⟨qr, qrc, eqr, hrc⟩ := hrs
  rw [valS_len] at eqr hrc
  cases eqr
  obtain ⟨hcapr, br, or, rfl, hbr, hcr⟩ := hrc (by omega)
  obtain ⟨qm, qmc, eqm, hmc⟩ := hms
  rw [hml] at eqm hmc
  cases eqm
  obtain ⟨hcapm, bm, om, rfl, hbm, hcm⟩ := hmc (by omega)
  have HCV := Lib.hid hcv
  have HCR := Lib.hid hcr
  have HCM := Lib.hid hcm
  clear hvc hcv hrc hcr hmc hcm hml hmo
  obtain ⟨i0, hi, hz0, hz1, hz2⟩ := info_parts (show (Try.prog.info? 2).map (fun i => (i.zero, i.size, i.bytes)) = some (some (Value.int .i64 0), 1, 8) by kernel_rfl)
  generalize leftT ms (valT ms (n + 1)) = LT at *
  generalize spL (valS (n + 1)) = SP at *
  generalize hVe : valT ms (n + 1) = vs at *
  have HVe := Lib.hid hVe
  clear hVe
  generalize valS (n + 1) = rs at *
  obtain ⟨wo, rfl⟩ : ∃ z, z = wr := ⟨_, rfl⟩
  go_wp2_with fail
  go_loopw [13] (fun i wz => ∃ (k : Nat), k ≤ n + 1 ∧ i = .int .i64 (k : Int) ∧ Hid (Below wo.heap.size wo wz)) (fun i _ => n + 1 - (intOf i).toNat)
  case atStart => exact ⟨0, Nat.zero_le _, rfl, Lib.hid (Below.refl _ _)⟩
  case round =>
    obtain ⟨k, hk, rfl, hbz⟩ := hrel
    have hzz := hbz.out.size
    by_cases hlt : k ≤ n
    · have d4 : decide (k ≤ n) = true := decide_eq_true hlt
      obtain ⟨t0, t1, t2⟩ := HTF.out k (by omega)
      obtain ⟨r0, r1, r2⟩ := HRF.out k (by omega)
      have tb := HTB.out k (by omega)
      have rb := HRB.out k (by omega)
      have Hlen := Lib.hid (HLL.out k)
      have Hly := Lib.hid (HLy.out k)
      have Hln := Lib.hid (HLn.out k)
      have Hl0 := Lib.hid (HL0.out k)
      have Hsl := Lib.hid (HSL.out k)
      have Hs1 := Lib.hid (HS1.out k)
      have Hs2 := Lib.hid (HS2.out k)
      have Hs0 := Lib.hid (HS0.out k)
      have cvk := HCV.out k (by omega)
      have crk := HCR.out k (by omega)
      generalize LT k = L at *
      generalize SP k = S at *
      obtain ⟨V, hV⟩ : ∃ V : Nat, vs.getD k 0 = (V : Int) := ⟨(vs.getD k 0).toNat, by omega⟩
      obtain ⟨R, hR⟩ : ∃ R : Nat, rs.getD k 0 = (R : Int) := ⟨(rs.getD k 0).toNat, by omega⟩
      rw [hV] at t0 t1 t2 tb cvk
      rw [hR] at r0 r1 r2 rb crk
      clear hV hR HTF HRF HTB HRB HLL HLy HLn HL0 HSL HS1 HS2 HS0
      have HT1 := Lib.hid t1
      have HT2 := Lib.hid t2
      have HR1 := Lib.hid r1
      have HR2 := Lib.hid r2
      clear t0 t1 t2 r0 r1 r2
      obtain ⟨wp, rfl⟩ : ∃ z, z = wr := ⟨_, rfl⟩
      have Hown0 := Lib.hid (own_zeroH wp wp.heap.size 2 (Nat.le_refl _))
      have Hbl0 := Lib.hid ((Below.refl wp.heap.size wp).alloc (Nat.le_refl _) (.cells #[] 2))
      go_wp2_with fail
      go_loopw [14, 15] (fun l i wz => ∃ (j : Nat) (lw : Value), lw = l ∧ j ≤ ml ∧ i = .int .i64 (j : Int) ∧ Hid (wz.ownsRow wp.heap.size 2 1 l (L j).length ((L j).map (Value.int .i64))) ∧ Hid (Below wp.heap.size wp wz)) (fun _ i _ => ml - (intOf i).toNat)
      case atStart => exact ⟨0, _, rfl, Nat.zero_le _, rfl, Lib.hid (by rw [Hl0.out]; exact Hown0.out), Hbl0⟩
      case round =>
        obtain ⟨j, lw, rfl, hj, rfl, hown, hbj⟩ := hrel
        have hzj := hbj.out.size
        have HB := Lib.hid (hbz.out.trans (hbj.out.mono hzz))
        by_cases hltj : j < ml
        · have c1 := cell_keep HB.out (HCM.out j hltj)
          obtain ⟨x0, x1⟩ := HM1.out j hltj
          have hlj := Hlen.out j
          have hyj := Hly.out j
          have hnj := Hln.out j
          generalize ms.getD j 0 = x at *
          by_cases hx : x ≤ (k : Int)
          · obtain ⟨r, hr⟩ : ∃ r : Nat, (k : Int) - x = (r : Int) := ⟨((k : Int) - x).toNat, by omega⟩
            have Hst := Lib.hid (hyj hx)
            rw [hr, Int.toNat_natCast] at Hst
            have c2 := cell_keep HB.out (HCV.out r (by omega))
            have hrn : r < n + 1 := by omega
            have hwr : IntKind.i64.wrap ((k : Int) - x) = (r : Int) := by rw [hr]; exact IntWalk.i64_in _ (by omega)
            clear hyj hnj
            generalize vs.getD r 0 = y at *
            generalize L j = Lj at *
            go_wp2_with (at_builtin; refine wpList_append_own _ rfl _ _ 22 rfl wp.heap.size 2 i0 (.int .i64 0) 1 8 (by kernel_rfl) hi hz0 hz1 hz2 rfl (by decide) _ _ _ rfl (hown.out.alloc _) ⟨wr.heap.size, 0, none⟩ 1 1 [.int .i64 y] rfl rfl (cell_one_new _ _ _) (one_int _) (by unfold maxLen; omega) (by omega) (by simp; omega) ?_; intro v3 w2 hown2 hgrow2 _)
            have Hown2 := Lib.hid (own_addY hown2)
            have Hb2 := Lib.hid ((hbj.out.alloc (by omega) _).grown hgrow2 (by simp; omega) (fun b hb => (hown.out.lt b hb).1))
            clear hown2 hgrow2
            go_wp2
            go_roundw
            case rel => exact ⟨j + 1, _, rfl, by omega, by go_num, Lib.hid (by rw [Hst.out]; exact Hown2.out), Hb2⟩
            case measure => simp [intOf]; omega
          · have Hst := Lib.hid (hnj (by omega))
            have d5 : decide (x ≤ (k : Int)) = false := decide_eq_false hx
            clear hyj hnj
            go_wp2
            go_roundw
            case rel => exact ⟨j + 1, _, rfl, by omega, by go_num, Lib.hid (by rw [Hst.out]; exact hown.out), hbj⟩
            case measure => simp [intOf]; omega
        · obtain rfl : j = ml := by omega
          have HLo := Lib.hid ((Sw.of_owns (d := 0) hown.out rfl).sl)
          have hlen := Hlen.out j
          generalize L j = Lf at *
          have HBq := Lib.hid hbj.out
          clear hown hbj Hly Hln Hl0 Hlen Hown0 Hbl0
          obtain ⟨wq, rfl⟩ : ∃ z, z = wr := ⟨_, rfl⟩
          have Hown0 := Lib.hid (own_zeroH wq wq.heap.size 2 (Nat.le_refl _))
          have Hbl0 := Lib.hid ((Below.refl wq.heap.size wq).alloc (Nat.le_refl _) (.cells #[] 2))
          go_wp2_with fail
          go_loopw [16, 17] (fun l i wz => ∃ (a : Nat) (lu : Value), lu = l ∧ a ≤ k ∧ i = .int .i64 (a : Int) ∧ Hid (wz.ownsRow wq.heap.size 2 1 l (S a).length ((S a).map (Value.int .i64))) ∧ Hid (Below wq.heap.size wq wz)) (fun _ i _ => k - (intOf i).toNat)
          case atStart => exact ⟨0, _, rfl, Nat.zero_le _, rfl, Lib.hid (by rw [Hs0.out]; exact Hown0.out), Hbl0⟩
          case round =>
            obtain ⟨a, lu, rfl, ha, rfl, hown, hba⟩ := hrel
            have hza := hba.out.size
            by_cases hlta : a < k
            · have HBC := Lib.hid (HB.out.trans (hba.out.mono (Nat.le_trans hzz hzj)))
              obtain ⟨r, hr⟩ : ∃ r : Nat, r = k - 1 - a := ⟨_, rfl⟩
              have hrn : r < n + 1 := by omega
              have e1 : (k : Int) - 1 - (a : Int) = (r : Int) := by omega
              have hw1 : IntKind.i64.wrap ((k : Int) - 1) = (k : Int) - 1 := IntWalk.i64_in _ (by omega)
              have hw2 : IntKind.i64.wrap ((k : Int) - 1 - (a : Int)) = (r : Int) := by rw [e1]; exact IntWalk.i64_in _ (by omega)
              have c1 := cell_keep HBC.out (HCR.out a (by omega))
              have c2 := cell_keep HBC.out (HCR.out r hrn)
              have hs1 := Hs1.out a
              have hs2 := Hs2.out a
              rw [← hr] at hs1 hs2
              have hsl := Hsl.out a
              have hsb : (S a).length ≤ 100 := by omega
              have ha0 : (0 : Int) ≤ (a : Int) := Int.natCast_nonneg _
              have ha1 : (a : Int) < (n : Int) + 1 := by omega
              have hr0 : (0 : Int) ≤ (r : Int) := Int.natCast_nonneg _
              have hr1 : (r : Int) < (n : Int) + 1 := by omega
              have hsx : wq.heap.size ≤ wr.heap.size + 1 := by omega
              have hob := own_neY hown.out (show br < wq.heap.size by omega)
              by_cases hj2 : a + 1 < k
              · have hs := hs2 hj2
                obtain ⟨r2, hr2⟩ : ∃ r : Nat, r = k - 2 - a := ⟨_, rfl⟩
                have hrn2 : r2 < n + 1 := by omega
                have e2 : (k : Int) - 2 - (a : Int) = (r2 : Int) := by omega
                have hw3 : IntKind.i64.wrap ((k : Int) - 2) = (k : Int) - 2 := IntWalk.i64_in _ (by omega)
                have hw4 : IntKind.i64.wrap ((k : Int) - 2 - (a : Int)) = (r2 : Int) := by rw [e2]; exact IntWalk.i64_in _ (by omega)
                have hr20 : (0 : Int) ≤ (r2 : Int) := Int.natCast_nonneg _
                have hr21 : (r2 : Int) < (n : Int) + 1 := by omega
                have Hc3 := Lib.hid (fun z (hz : Below wq.heap.size wq z) => cell_keep (HB.out.trans (hz.mono (Nat.le_trans hzz hzj))) (HCR.out r2 hrn2))
                have Hc1 := Lib.hid (fun z (hz : Below wq.heap.size wq z) => cell_keep (HB.out.trans (hz.mono (Nat.le_trans hzz hzj))) (HCR.out a (by omega)))
                have d6 : decide ((a : Int) + 1 < (k : Int)) = true := decide_eq_true (by omega)
                have d6' : decide (a + 1 < k) = true := decide_eq_true hj2
                rw [← hr2] at hs
                have Hst := Lib.hid hs
                clear hs hs1 hs2 hr hr2 e1 e2 hsl
                generalize rs.getD a 0 = x at *
                generalize rs.getD r 0 = y at *
                generalize rs.getD r2 0 = y2 at *
                generalize S a = Sj at *
                have hmax : Sj.length + 1 ≤ maxLen := by unfold maxLen; omega
                have hby : (Sj.length + 1) * 8 ≤ 140737488355328 := by omega
                go_wp2_with fail
                go_region_law ((refine step_append_lies _ (by rfl) _ _ _ (by rfl) wq.heap.size 2 i0 _ 1 8 (by kernel_rfl) hi hz0 hz1 hz2 rfl (by omega) _ Sj.length _ (by rfl) ((hown.out.alloc _).drew) ⟨wr.heap.size, 0, none⟩ 1 1 [.int .i64 (bits .xor .i64 x y)] (by rfl) (by rfl) (cell_one_new _ _ _) (one_int _) (by omega) hmax hby (by first | (simp; exact hsx) | simp) (wr.heap.size + 1) (by simp) ?_; intro g1 cp1 w2 hown2 hgrow hat hlt2))
                all_goals
                  have Hown2 := Lib.hid (own_addY hown2)
                  have Hb2 := Lib.hid (((hba.out.alloc (by omega) _).drew).grown hgrow (by first | (simp; exact hsx) | simp) (fun b hb => (hown.out.lt b hb).1))
                  have c3 := Hc3.out _ Hb2.out
                  have c4 := Hc1.out _ Hb2.out
                  clear hown2 hgrow hw1 hw2 hat c1 c2 hlt2
                  have hz2' := Hb2.out.size
                  have hsx2 : wq.heap.size ≤ w2.heap.size + 1 := by omega
                  have hmax2 : (Sj ++ [bits .xor .i64 x y]).length + 1 ≤ maxLen := by rw [List.length_append]; show Sj.length + 1 + 1 ≤ maxLen; unfold maxLen; omega
                  have hby2 : ((Sj ++ [bits .xor .i64 x y]).length + 1) * 8 ≤ 140737488355328 := by rw [List.length_append]; show (Sj.length + 1 + 1) * 8 ≤ _; omega
                  generalize hS2 : Sj ++ [bits .xor .i64 x y] = Sk at *
                  have HS2 := Lib.hid hS2
                  clear hS2
                  go_wp2_with fail
                  go_region_law ((refine step_append_lies _ (by rfl) _ _ _ (by rfl) wq.heap.size 2 i0 _ 1 8 (by kernel_rfl) hi hz0 hz1 hz2 rfl (by omega) _ Sk.length _ (by rfl) ((Hown2.out.alloc _).drew) ⟨w2.heap.size, 0, none⟩ 1 1 [.int .i64 (bits .xor .i64 x y2)] (by rfl) (by rfl) (cell_one_new _ _ _) (one_int _) (by omega) hmax2 hby2 (by first | (simp; exact hsx2) | simp) (w2.heap.size + 1) (by simp) ?_; intro g2 cp2 w3 hown2 hgrow hat hlt2))
                  all_goals
                    have Hown3 := Lib.hid (own_addY hown2)
                    have Hb3 := Lib.hid (((Hb2.out.alloc (by omega) _).drew).grown hgrow (by first | (simp; exact hsx2) | simp) (fun b hb => (Hown2.out.lt b hb).1))
                    clear hown2 hgrow hw3 hw4 hat c3 c4 hlt2
                    go_wp2
                    go_roundw
                    case rel => exact ⟨a + 1, _, rfl, by omega, by go_num, Lib.hid (by rw [Hst.out]; exact Hown3.out), Hb3⟩
                    case measure => simp [intOf]; omega
              · have hs := hs1 hj2
                have d6 : decide ((a : Int) + 1 < (k : Int)) = false := decide_eq_false (by omega)
                have d6' : decide (a + 1 < k) = false := decide_eq_false hj2
                have Hst := Lib.hid hs
                clear hs hs1 hs2 hr e1 hsl
                generalize rs.getD a 0 = x at *
                generalize rs.getD r 0 = y at *
                generalize S a = Sj at *
                have hmax : Sj.length + 1 ≤ maxLen := by unfold maxLen; omega
                have hby : (Sj.length + 1) * 8 ≤ 140737488355328 := by omega
                go_wp2_with fail
                go_region_law ((refine step_append_lies _ (by rfl) _ _ _ (by rfl) wq.heap.size 2 i0 _ 1 8 (by kernel_rfl) hi hz0 hz1 hz2 rfl (by omega) _ Sj.length _ (by rfl) ((hown.out.alloc _).drew) ⟨wr.heap.size, 0, none⟩ 1 1 [.int .i64 (bits .xor .i64 x y)] (by rfl) (by rfl) (cell_one_new _ _ _) (one_int _) (by omega) hmax hby (by first | (simp; exact hsx) | simp) (wr.heap.size + 1) (by simp) ?_; intro g1 cp1 w2 hown2 hgrow hat hlt2))
                all_goals
                  have Hown2 := Lib.hid (own_addY hown2)
                  have Hb2 := Lib.hid (((hba.out.alloc (by omega) _).drew).grown hgrow (by first | (simp; exact hsx) | simp) (fun b hb => (hown.out.lt b hb).1))
                  clear hown2 hgrow hw1 hw2 hat c1 c2 hlt2
                  go_wp2
                  go_roundw
                  case rel => exact ⟨a + 1, _, rfl, by omega, by go_num, Lib.hid (by rw [Hst.out]; exact Hown2.out), Hb2⟩
                  case measure => simp [intOf]; omega
            · obtain rfl : a = k := by omega
              have HSo := Lib.hid ((Sw.of_owns (d := 0) hown.out rfl).sl)
              have hslen := Hsl.out a
              have HBe := Lib.hid (HB.out.trans (hba.out.mono (Nat.le_trans hzz hzj)))
              have HLo2 := Lib.hid (HLo.out.later hba.out)
              have HBr := Lib.hid (hbz.out.trans (((HBq.out.trans (hba.out.mono hzj))).mono hzz))
              generalize S a = Sf at *
              clear hown hba Hs0 Hs1 Hs2 Hsl Hown0 Hbl0 HLo HBq HB
              have hzt := hzz
              obtain ⟨wt, rfl⟩ : ∃ z, z = wr := ⟨_, rfl⟩
              have hze : wo.heap.size ≤ wt.heap.size := HBe.out.size
              have cv1 := cell_keep HBe.out cvk
              have cr1 := cell_keep HBe.out crk
              have hl1 : Lf.length ≤ 1048576 := by omega
              have hl2 : Sf.length ≤ 1048576 := by omega
              have HC1 := Lib.hid (has8_any Lf (V : Int) lw wt hl1 HLo2.out)
              rw [HT1.out] at HC1
              have HC2 := Lib.hid (fun z (hz : Below wt.heap.size wt z) => has8_any Sf (R : Int) lu z hl2 (HSo.out.later hz))
              rw [HR1.out] at HC2
              have HC3 := Lib.hid (fun z (hz : Below wt.heap.size wt z) (x : Nat) (hx : x < V) => has8_any Lf (x : Int) lw z hl1 (HLo2.out.later hz))
              have HC4 := Lib.hid (fun z (hz : Below wt.heap.size wt z) (x : Nat) (hx : x < R) => has8_any Sf (x : Int) lu z hl2 (HSo.out.later hz))
              have HD3 := Lib.hid (fun (x : Nat) (hx : x < V) => HT2.out (x : Int) (by omega) (by omega))
              have HD4 := Lib.hid (fun (x : Nat) (hx : x < R) => HR2.out (x : Int) (by omega) (by omega))
              have dv : decide ((V : Int) < 0) = false := decide_eq_false (by omega)
              have dr : decide ((R : Int) < 0) = false := decide_eq_false (by omega)
              clear HT1 HT2 HR1 HR2 HLo2 HSo
              go_wp2_with fail
              refine HC1.out.mono ?_
              rintro e w5 ⟨rfl, hd5⟩
              have cv2 := cell_keep (hd5.below wt.heap.size) cv1
              have cr2 := cell_keep (hd5.below wt.heap.size) cr1
              have HC2' := Lib.hid (HC2.out w5 (hd5.below _))
              have Hd5 := Lib.hid hd5
              clear hd5
              go_wp2_with fail
              refine HC2'.out.mono ?_
              rintro e w6 ⟨rfl, hd6⟩
              have Hb6 := Lib.hid ((Hd5.out.trans hd6).below wt.heap.size)
              clear hd6 Hd5 HC1 HC2 HC2' cv2 cr2
              go_wp2_with fail
              go_loopw [18] (fun i wz => ∃ (x : Nat), x ≤ V + R ∧ i = .int .i64 (x : Int) ∧ Hid (Below wt.heap.size wt wz)) (fun i _ => V + R - (intOf i).toNat)
              case atStart => exact ⟨0, Nat.zero_le _, rfl, Hb6⟩
              case round =>
                obtain ⟨x, hx, rfl, hbx⟩ := hrel
                have cv3 := cell_keep hbx.out cv1
                have cr3 := cell_keep hbx.out cr1
                by_cases hxv : x < V
                · have dxv : decide (x < V) = true := decide_eq_true hxv
                  have HC := Lib.hid (HC3.out _ hbx.out x hxv)
                  rw [HD3.out x hxv] at HC
                  by_cases hxr : x < R
                  · have dxr : decide (x < R) = true := decide_eq_true hxr
                    go_wp2_with fail
                    refine HC.out.mono ?_
                    rintro e w7 ⟨rfl, hd7⟩
                    have Hb7 := Lib.hid (hbx.out.trans (hd7.below _))
                    have HCr := Lib.hid (HC4.out _ Hb7.out x hxr)
                    rw [HD4.out x hxr] at HCr
                    have cr4 := cell_keep Hb7.out cr1
                    clear hd7
                    go_wp2_with fail
                    refine HCr.out.mono ?_
                    rintro e w8 ⟨rfl, hd8⟩
                    have Hb8 := Lib.hid (Hb7.out.trans (hd8.below _))
                    clear hd8
                    go_wp2
                    go_roundw
                    case rel => exact ⟨x + 1, by omega, by go_num, Hb8⟩
                    case measure => simp [intOf]; omega
                  · have dxr : decide (x < R) = false := decide_eq_false hxr
                    go_wp2_with fail
                    refine HC.out.mono ?_
                    rintro e w7 ⟨rfl, hd7⟩
                    have Hb7 := Lib.hid (hbx.out.trans (hd7.below _))
                    have cr4 := cell_keep Hb7.out cr1
                    clear hd7
                    go_wp2
                    go_roundw
                    case rel => exact ⟨x + 1, by omega, by go_num, Hb7⟩
                    case measure => simp [intOf]; omega
                · have dxv : decide (x < V) = false := decide_eq_false hxv
                  by_cases hxr : x < R
                  · have dxr : decide (x < R) = true := decide_eq_true hxr
                    have HC := Lib.hid (HC4.out _ hbx.out x hxr)
                    rw [HD4.out x hxr] at HC
                    go_wp2_with fail
                    refine HC.out.mono ?_
                    rintro e w7 ⟨rfl, hd7⟩
                    have Hb7 := Lib.hid (hbx.out.trans (hd7.below _))
                    clear hd7
                    go_wp2
                    go_roundw
                    case rel => exact ⟨x + 1, by omega, by go_num, Hb7⟩
                    case measure => simp [intOf]; omega
                  · have dxr : decide (x < R) = false := decide_eq_false hxr
                    have HE := Lib.hid (HBe.out.trans (hbx.out.mono hze))
                    clear HC3 HC4 HD3 HD4
                    go_wp2
                    go_roundw
                    case rel => exact ⟨a + 1, by omega, by go_num, HE⟩
                    case measure => simp [intOf]; omega
    · obtain rfl : k = n + 1 := by omega
      have d4 : decide (n + 1 ≤ n) = false := decide_eq_false (by omega)
      have HE := Lib.hid (hW.trans (hbz.out.mono hwz))
      have hvs' := Hvs.out.later hbz.out
      rw [← HVe.out] at hvs'
      have hms' := Hms.out.later hbz.out
      have hmo' := Hmo.out
      have hml' := Hml.out
      clear Hvs Hms Hmo Hml HVe HTF HRF HTB HRB HLL HLy HLn HL0 HSL HS1 HS2 HS0 HCV HCR HCM HM1
      go_upto_region 38 with fail
      exact stageE gs ms v v2 n ml h4 cm cv _ _ w _ _ _ _ _ _ _ _ _ _ _ _ _ _ _ _ _ _ _ _ _ _ _ _ _ _ _ _ _ _ _ _ _ _ _ _ _ _ _ _ _ _ _ _ _ _ _ _ _ _ _ _ _ _ _ _ _ _ _ _ _ _ _ _ _ _ _ _ _ _ _ _ _ _ _ _ _ _ _ _ _ _ _ _ _ _ _ _ _ _ _ _ _ _ _ _ _ _ _ _ _ _ _ _ _ _ _ _ _ _ _ _ _ _ _ _ _ _ _ _ _ _ _ _ _ _ _ _ _ _ _ _ _ _ _ _ _ _ _ _ _ _ _ _ _ _ _ _ _ _ _ _ _ _ _ _ _ _ _ _ _ _ _ _ _ _ _ _ _ _ _ _ _ _ _ _ _ _ _ _ _ _ _ _ _ _ _ _ _ _ _ _ _ _ _ _ _ _ _ _ _ _ _ _ _ _ _ _ _ _ _ _ _ _ _ _ _ _ _ _ _ _ _ _ _ _ _ _ _ _ _ _ _ _ _ _ _ _ _ _ _ _ _ _ _ _ _ _ _ _ _ _ _ _ _ _ _ _ _ _ _ _ _ _ _ _ _ _ _ _ _ _ _ _ _ _ _ _ _ _ _ _ _ _ _ _ _ _ _ _ _ _ _ _ _ _ _ _ _ _ _ _ _ _ _ _ (by assumption) HE.out hms' hvs' hml' hmo' hm4 hn h0 HH HX

end Go.Proofs.Ytodmaomngpnboaa
