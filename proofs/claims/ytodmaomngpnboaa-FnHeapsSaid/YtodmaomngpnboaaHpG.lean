/- The law of heaps: its end. -/
import Derived.Test.YtodmaomngpnboaaHpF
import Derived.Test.YtodmaomngpnboaaYi
import Derived.Test.YtodmaomngpnboaaYg
import Derived.BigQuiet
import Derived.Deep.DeepCutAuto
import Derived.Deep.CutBlock
set_option linter.unusedVariables false
namespace Go.Proofs.Ytodmaomngpnboaa
open Go.RowKit
attribute [local go_sem] Oper.semAt_some

theorem own_zeroH (w : World) (base : Nat) (e : TypeId) (hb : base ≤ w.heap.size) : (w.alloc (.cells #[] e)).ownsRow base e 1 (.slice (some ⟨w.heap.size, 0, none⟩) 0 0) 0 [] :=
  World.ownsRow_made w #[] 0 hb (Nat.zero_le _) rfl
theorem xr8 : ∀ a, a < 8 → ∀ b, b < 5 → (∃ c, c < 8 ∧ xr ((a : Nat) : Int) ((b : Nat) : Int) = ((c : Nat) : Int)) ∧ xr (xr ((a : Nat) : Int) ((b : Nat) : Int)) (xr ((a : Nat) : Int) ((b : Nat) : Int)) = 0 := by decide +kernel
theorem allX8 (hs vs : List Int) (hv : ∀ i, i < hs.length → 0 ≤ vs.getD (hs.getD i 0).toNat 0 ∧ vs.getD (hs.getD i 0).toNat 0 ≤ 4) : ∀ k, k ≤ hs.length → ∃ c : Nat, c < 8 ∧ allX hs vs k = (c : Int)
  | 0, _ => ⟨0, by omega, rfl⟩
  | k + 1, h => by
    obtain ⟨c, hc, e⟩ := allX8 hs vs hv k (by omega)
    obtain ⟨h0, h1⟩ := hv k (by omega)
    obtain ⟨y, hy⟩ : ∃ y : Nat, vs.getD (hs.getD k 0).toNat 0 = (y : Int) := ⟨(vs.getD (hs.getD k 0).toNat 0).toNat, by omega⟩
    obtain ⟨d, hd, e2⟩ := (xr8 c hc y (by omega)).1
    refine ⟨d, hd, ?_⟩
    show xr (allX hs vs k) _ = _
    rw [e, hy, e2]
theorem xr_self (hs vs : List Int) (hv : ∀ i, i < hs.length → 0 ≤ vs.getD (hs.getD i 0).toNat 0 ∧ vs.getD (hs.getD i 0).toNat 0 ≤ 4) (i : Nat) (hi : i < hs.length) : bits .xor .i64 (bits .xor .i64 (allX hs vs hs.length) (vs.getD (hs.getD i 0).toNat 0)) (bits .xor .i64 (allX hs vs hs.length) (vs.getD (hs.getD i 0).toNat 0)) = 0 := by
  obtain ⟨c, hc, e⟩ := allX8 hs vs hv hs.length (Nat.le_refl _)
  obtain ⟨h0, h1⟩ := hv i hi
  obtain ⟨y, hy⟩ : ∃ y : Nat, vs.getD (hs.getD i 0).toNat 0 = (y : Int) := ⟨(vs.getD (hs.getD i 0).toNat 0).toNat, by omega⟩
  rw [e, hy]
  exact (xr8 c hc y (by omega)).2

def tailN : Nat → Code → Code
  | 0, c => c
  | n + 1, .seq _ b => tailN n b
  | _ + 1, c => c
def headN (n : Nat) (c : Code) : Code := match tailN n c with
  | .seq a _ => a
  | c => c

noncomputable def fnBody : Code := (Try.f6.body).getD .skip

set_option maxRecDepth 1000000 in
set_option maxHeartbeats 16000000 in
theorem stageE (gs ms : List Int) (v v2 : Value) (n ml h4 cm cv : Nat) (pm pv : Option Addr) (w wr : World) (s2 s3 s4 s6 s7 s10 s11 s12 s13 s14 s15 s16 s17 s18 s19 s20 s21 s22 s23 s24 s25 s26 s27 s28 s29 s30 s31 s32 s33 s34 s35 s36 s37 s38 s39 s40 s41 s42 s43 s44 s45 s46 s47 s48 s49 s50 s51 s52 s53 s54 s55 s56 s57 s58 s59 s60 s61 s62 s63 s64 s65 s66 s67 s68 s69 s70 s71 s72 s73 s74 s75 s76 s77 s78 s79 s80 s81 s82 s83 s84 s85 s86 s87 s88 s89 s90 s91 s92 s93 s94 s95 s96 s97 s98 s99 s100 s101 s102 s103 s104 s105 s106 s107 s108 s109 s110 s111 s112 s113 s114 s115 s116 s117 s118 s119 s120 s121 s122 s123 s124 s125 s126 s127 s128 s129 s130 s131 s132 s133 s134 s135 s136 s137 s138 s139 s140 s141 s142 s143 s144 s145 s146 s147 s148 s149 s150 s151 s152 s153 s154 s155 s156 s157 s158 s159 s160 s161 s162 s163 s164 s165 s166 s167 s168 s169 s170 s171 s172 s173 s174 s175 s176 s177 s178 s179 s180 s181 s182 s183 s184 s185 s186 s187 s188 s189 s190 s191 s192 s193 s194 s195 s196 s197 s198 s199 s200 s201 s202 s203 s204 s205 s206 s207 s208 s209 s210 s211 s212 s213 s214 s215 s216 s217 s218 s219 s220 s221 s222 s223 s224 s225 s226 s227 s228 s229 s230 s231 s232 s233 s234 s235 s236 s237 s238 s239 s240 s241 s242 s243 s244 s245 s246 s247 s248 s249 s250 s251 s252 s253 s254 s255 s256 s257 s258 s259 s260 s261 s262 s263 s264 s265 s266 s267 s268 s269 s270 s271 s272 s273 s274 s275 s276 s277 s278 s279 s280 s281 s282 s283 s284 s285 s286 s287 s288 s289 s290 s291 s292 s293 s294 s295 s296 s297 s298 s299 s300 s301 s302 s303 s304 s305 s306 s307 s308 : Value) (K : Act → World → Prop)
    (hK : ∀ a z, Code.wp Try.prog (tailN 11 fnBody) (bodyPost Try.prog Try.f6 fun e w' => e = Ending.returned (Value.bool true) ∧ Below w.heap.size w w') a z → K a z)
    (hW : Below w.heap.size w wr) (hms : Sl (Value.int .i64) 0 wr (.slice pm ml cm) ms) (hvs : Sl (Value.int .i64) 0 wr (.slice pv (n + 1) cv) (valT ms (n + 1))) (hml : ms.length = ml) (hmo : movB ms = true) (hm4 : ml ≤ 4) (hn : n < 30)
    (h0 : h4 < 4)
    (HH : Hid (∀ z, Below w.heap.size w z → Calls Try.prog 37 #[v2, .int .i64 ((42 : Nat) : Int), .int .i64 ((4 : Nat) : Int)] z fun e w' => e = .returned (.int .i64 ((h4 : Nat) : Int)) ∧ z = w'))
    (HX : Hid (∀ z k, k ≤ 1000 → Below w.heap.size w z → Calls Try.prog 37 #[v2, .int .i64 ((k : Nat) : Int), .int .i64 ((n + 1 : Nat) : Int)] z fun e w' => e = .returned (.int .i64 ((r8V gs k (n + 1) : Nat) : Int)) ∧ z = w')) :
    Code.wp Try.prog (headN 10 fnBody) (Exit.then K (bodyPost Try.prog Try.f6 fun e w' => e = Ending.returned (Value.bool true) ∧ Below w.heap.size w w')) ⟨#[v, v2, s2, s3, s4, .slice pm ml cm, s6, s7, .int .i64 (n : Int), .slice pv (n + 1) cv, s10, s11, s12, s13, s14, s15, s16, s17, s18, s19, s20, s21, s22, s23, s24, s25, s26, s27, s28, s29, s30, s31, s32, s33, s34, s35, s36, s37, s38, s39, s40, s41, s42, s43, s44, s45, s46, s47, s48, s49, s50, s51, s52, s53, s54, s55, s56, s57, s58, s59, s60, s61, s62, s63, s64, s65, s66, s67, s68, s69, s70, s71, s72, s73, s74, s75, s76, s77, s78, s79, s80, s81, s82, s83, s84, s85, s86, s87, s88, s89, s90, s91, s92, s93, s94, s95, s96, s97, s98, s99, s100, s101, s102, s103, s104, s105, s106, s107, s108, s109, s110, s111, s112, s113, s114, s115, s116, s117, s118, s119, s120, s121, s122, s123, s124, s125, s126, s127, s128, s129, s130, s131, s132, s133, s134, s135, s136, s137, s138, s139, s140, s141, s142, s143, s144, s145, s146, s147, s148, s149, s150, s151, s152, s153, s154, s155, s156, s157, s158, s159, s160, s161, s162, s163, s164, s165, s166, s167, s168, s169, s170, s171, s172, s173, s174, s175, s176, s177, s178, s179, s180, s181, s182, s183, s184, s185, s186, s187, s188, s189, s190, s191, s192, s193, s194, s195, s196, s197, s198, s199, s200, s201, s202, s203, s204, s205, s206, s207, s208, s209, s210, s211, s212, s213, s214, s215, s216, s217, s218, s219, s220, s221, s222, s223, s224, s225, s226, s227, s228, s229, s230, s231, s232, s233, s234, s235, s236, s237, s238, s239, s240, s241, s242, s243, s244, s245, s246, s247, s248, s249, s250, s251, s252, s253, s254, s255, s256, s257, s258, s259, s260, s261, s262, s263, s264, s265, s266, s267, s268, s269, s270, s271, s272, s273, s274, s275, s276, s277, s278, s279, s280, s281, s282, s283, s284, s285, s286, s287, s288, s289, s290, s291, s292, s293, s294, s295, s296, s297, s298, s299, s300, s301, s302, s303, s304, s305, s306, s307, s308], []⟩ wr := by
  conv at hK => enter [a, z, 1, 2]; whnf
  conv => arg 2; whnf
  have hwz := hW.size
  obtain ⟨hN, hhN⟩ : ∃ z, z = h4 + 1 := ⟨_, rfl⟩
  have hN1 : 1 ≤ hN := by omega
  have hN4 : hN ≤ 4 := by omega
  have EH := Lib.hid (show (1 : Int) + (h4 : Int) = (hN : Int) by omega)
  have En := Lib.hid (show (n : Int) + 1 = ((n + 1 : Nat) : Int) by omega)
  obtain ⟨hs, hhs⟩ : ∃ z, z = hpL gs n hN := ⟨_, rfl⟩
  have hsl : hs.length = hN := by rw [hhs, hpL_len]
  have hsb : ∀ i, i < hN → hs.getD i 0 = ((r8V gs i (n + 1) : Nat) : Int) := fun i hi => by rw [hhs]; exact hpL_at gs n hN i hi
  have HF := Lib.hid (heap_facts hs ms n hmo (by rw [hml]; omega) (by omega) (by omega) (by omega) (fun i hi => by rw [hhs]; rw [hsl] at hi; exact hpL_bd gs n hN i hi))
  have hvb : ∀ i, i < hs.length → 0 ≤ (valT ms (n + 1)).getD (hs.getD i 0).toNat 0 ∧ (valT ms (n + 1)).getD (hs.getD i 0).toNat 0 ≤ 4 := fun i hi => by
    rw [hsl] at hi
    refine valT_bd ms (by omega) _ (n + 1) ?_
    rw [hsb i hi, Int.toNat_natCast]
    exact r8V_lt gs i (n + 1) (by omega)
  have HSF := Lib.hid (xr_self hs (valT ms (n + 1)) hvb)
  have HNX := Lib.hid (fun k => hpL_next gs n k)
  have HN0 := Lib.hid (show hpL gs n 0 = [] from rfl)
  have HRL := Lib.hid (fun k => r8V_lt gs k (n + 1) (by omega))
  have HSB := Lib.hid hsb
  have HX0 := Lib.hid (show allX hs (valT ms (n + 1)) 0 = 0 from rfl)
  have HXs := Lib.hid (fun k => show allX hs (valT ms (n + 1)) (k + 1) = bits .xor .i64 (allX hs (valT ms (n + 1)) k) ((valT ms (n + 1)).getD (hs.getD k 0).toNat 0) from rfl)
  have HLen := Lib.hid (valT_len ms (n + 1))
  have HML := Lib.hid hml
  have HM1 := Lib.hid (mov_one hmo)
  have HSL := Lib.hid hsl
  have HHS := Lib.hid hhs
  have HPL := Lib.hid (fun k => hpL_len gs n k)
  have Hms := Lib.hid hms
  have HMv := Lib.hid (fun z u (hz : Below wr.heap.size wr z) (hu : Sl (Value.int .i64) 0 z u hs) => impl_HeapMove hs u ms _ z (by omega) hu (by omega) (hms.later hz))
  obtain ⟨qv, qc, eqv, hvc⟩ := hvs
  rw [valT_len] at eqv hvc
  cases eqv
  obtain ⟨hcap, bv, ov, rfl, hbv, hcv⟩ := hvc (by omega)
  have HCV := Lib.hid hcv
  clear hhs hsl hsb hvb hms hvc hcv hml hmo hhN
  obtain ⟨i0, hi, hz0, hz1, hz2⟩ := info_parts (show (Try.prog.info? 2).map (fun i => (i.zero, i.size, i.bytes)) = some (some (Value.int .i64 0), 1, 8) by kernel_rfl)
  generalize valT ms (n + 1) = vs at *
  go_wp2_with fail
  have Hown0 := Lib.hid (own_zeroH wr wr.heap.size 2 (Nat.le_refl _))
  have Hbl0 := Lib.hid ((Below.refl wr.heap.size wr).alloc (Nat.le_refl _) (.cells #[] 2))
  obtain ⟨wo, rfl⟩ : ∃ z, z = wr := ⟨_, rfl⟩
  go_loopw [19, 20, 21] (fun p a i wz => ∃ (k : Nat) (lv : Value), lv = p ∧ k ≤ hN ∧ a = .int .i64 (allX hs vs k) ∧ i = .int .i64 (k : Int) ∧ Hid (wz.ownsRow wo.heap.size 2 1 p (hpL gs n k).length ((hpL gs n k).map (Value.int .i64))) ∧ Hid (Below wo.heap.size wo wz)) (fun _ _ i _ => hN - (intOf i).toNat)
  case atStart => exact ⟨0, _, rfl, Nat.zero_le _, rfl, rfl, Lib.hid (by rw [HN0.out]; exact Hown0.out), Hbl0⟩
  case round =>
    obtain ⟨k, lv, rfl, hk, rfl, rfl, hown, hbz⟩ := hrel
    have hzz := hbz.out.size
    have HH1 := Lib.hid (HH.out wr (hW.trans (hbz.out.mono hwz)))
    by_cases hlt : k < hN
    · have d4 : decide ((k : Int) < 1 + (h4 : Int)) = true := decide_eq_true (by have := EH.out; omega)
      have HX1 := Lib.hid (HX.out wr k (by omega) (hW.trans (hbz.out.mono hwz)))
      have hx1 := HRL.out k
      have HXe := Lib.hid (HXs.out k)
      have HNe := Lib.hid (HNX.out k)
      have hsk := HSB.out k hlt
      have hpk := HPL.out k
      rw [hsk, Int.toNat_natCast] at HXe
      clear hsk
      generalize r8V gs k (n + 1) = x at *
      have cv1 := HCV.out x hx1
      generalize vs.getD x 0 = y at *
      generalize allX hs vs k = A at *
      generalize hpL gs n k = L at *
      go_wp2_with fail
      refine HH1.out.mono ?_
      rintro e w' ⟨rfl, rfl⟩
      go_wp2_with fail
      rw [En.out]
      refine HX1.out.mono ?_
      rintro e w' ⟨rfl, rfl⟩
      go_wp2_with (at_builtin; refine wpList_append_own _ rfl _ _ 22 rfl wo.heap.size 2 i0 (.int .i64 0) 1 8 (by kernel_rfl) hi hz0 hz1 hz2 rfl (by decide) _ _ _ rfl (hown.out.alloc _) ⟨wr.heap.size, 0, none⟩ 1 1 [.int .i64 (x : Int)] rfl rfl (cell_one_new _ _ _) (one_int _) (by unfold maxLen; omega) (by omega) (by simp; omega) ?_; intro v3 w2 hown2 hgrow2 _; have Hown2 := Lib.hid (own_addY hown2); have Hb2 := Lib.hid ((hbz.out.alloc (by omega) _).grown hgrow2 (by simp; omega) (fun b hb => (hown.out.lt b hb).1)); have cv2 := cell_keep Hb2.out cv1; clear hown2 hgrow2)
      go_roundw
      case rel => exact ⟨k + 1, _, rfl, by omega, by rw [HXe.out], by go_num, Lib.hid (by rw [HNe.out]; exact Hown2.out), Hb2⟩
      case measure => simp [intOf]; omega
    · obtain rfl : k = hN := by omega
      have d4 : decide ((k : Int) < 1 + (h4 : Int)) = false := decide_eq_false (by have := EH.out; omega)
      have hsl0 := (Sw.of_owns (d := 0) hown.out rfl).sl
      rw [← HHS.out] at hsl0
      have HM := Lib.hid (HMv.out wr lv hbz.out hsl0)
      have Hhs := Lib.hid hsl0
      have HA := Lib.hid (show allX hs vs k = allX hs vs hs.length by rw [HSL.out])
      have HBz := Lib.hid hbz.out
      have Hms2 := Lib.hid (Hms.out.later hbz.out)
      clear hsl0 hown hbz HMv HX HNX HN0 HXs HX0 HPL Hown0 Hbl0 Hms HHS
      go_wp2_with fail
      refine HH1.out.mono ?_
      rintro e w' ⟨rfl, rfl⟩
      go_wp2_with fail
      refine HM.out.mono ?_
      rintro e w3 ⟨rfl, hb3⟩
      have HB3 := Lib.hid (HBz.out.trans (hb3.mono HBz.out.size))
      have Hhs3 := Lib.hid (Hhs.out.later hb3)
      have Hms3 := Lib.hid (Hms2.out.later hb3)
      have HCV3 := Lib.hid (fun j (hj : j < n + 1) => cell_keep HB3.out (HCV.out j hj))
      clear hb3 HBz Hhs Hms2 HCV HM HH1 EH HA
      obtain ⟨g1, g2⟩ := HF.out
      rw [g1] at g2 ⊢
      have HS := Lib.hid HSF.out
      rw [HSL.out] at HS g2 ⊢
      generalize allX hs vs k = A at *
      by_cases hA : A = 0
      · subst hA
        have q1 : decide ((0 : Int) ≠ 0) = false := rfl
        rw [q1]
        have HE := Lib.hid ((hW.trans (HB3.out.mono hwz)))
        clear HF g1 g2 HS HSF
        go_wp2
        go_ret
        exact ⟨rfl, HE.out⟩
      · have q1 : decide (A ≠ 0) = true := decide_eq_true hA
        obtain ⟨i, j, hi1, hj1, e1, e2, e3, e4⟩ := g2 q1
        rw [q1, e1, e2]
        have hS := HS.out i hi1
        obtain ⟨ph, ch, rfl, hhc⟩ := Hhs3.out
        rw [HSL.out] at hhc ⊢
        obtain ⟨_, bh, oh, rfl, hbh, hch⟩ := hhc (by omega)
        have c1 := hch i hi1
        have hx := HSB.out i hi1
        have hxl := HRL.out i
        rw [hx] at c1 e3 e4 hS
        clear hhc hch hx
        generalize r8V gs i (n + 1) = x at *
        have hm1 := HM1.out j hj1
        have hcon : ms.contains (ms.getD j 0) = true := by
          rw [getD_lt ms 0 j hj1, List.contains_iff_mem]
          exact List.getElem_mem _
        have HCN := Lib.hid (has8_any ms (ms.getD j 0) _ w3 (by rw [HML.out]; omega) Hms3.out)
        rw [hcon] at HCN
        clear hcon
        obtain ⟨t, ht⟩ : ∃ t : Nat, ms.getD j 0 = (t : Int) := ⟨(ms.getD j 0).toNat, by omega⟩
        rw [ht] at e3 e4 hm1 HCN ⊢
        clear ht
        obtain ⟨r, hr⟩ : ∃ r : Nat, (x : Int) - (t : Int) = (r : Int) := ⟨((x : Int) - (t : Int)).toNat, by omega⟩
        rw [hr, Int.toNat_natCast, Int.toNat_natCast] at e4
        rw [Int.toNat_natCast] at hS
        have hrn : r < n + 1 := by omega
        have c2 := HCV3.out x (by omega)
        have c3 := HCV3.out r hrn
        rw [e4] at c3
        clear e4 HCV3
        generalize vs.getD x 0 = y at *
        obtain ⟨B, hB⟩ : ∃ B, B = bits .xor .i64 A y := ⟨_, rfl⟩
        rw [← hB] at hS c3
        have e5 : bits .xor .i64 A y = B := hB.symm
        have d1 : decide ((i : Int) < 0) = false := decide_eq_false (by omega)
        have d2 : decide (k ≤ i) = false := decide_eq_false (by omega)
        have d3 : decide ((x : Int) < (t : Int)) = false := decide_eq_false (by omega)
        have d3' : decide (x < t) = false := decide_eq_false (by omega)
        have nA : (A != 0) = true := by simpa using hA
        have hwr : IntKind.i64.wrap ((x : Int) - (t : Int)) = (r : Int) := by rw [hr]; exact IntWalk.i64_in _ (by omega)
        have HE := Lib.hid ((hW.trans (HB3.out.mono hwz)))
        clear hB hr HF g1 g2 HSF q1 hA
        go_wp2_with fail
        refine HCN.out.mono ?_
        rintro e w4 ⟨rfl, nq, rfl⟩
        go_wp2_with fail
        go_quiet (fail)
        go_wp2
        go_ret
        exact ⟨ret_bool (by simp), by first | exact HE.out.trans (Drawn.below ⟨_, rfl⟩ _) | exact HE.out.trans ((Drawn.more ⟨_, rfl⟩ _).below _)⟩

end Go.Proofs.Ytodmaomngpnboaa
