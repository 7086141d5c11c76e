/- Contracts: Beats, in both texts. -/
import Derived.Test.YtaimbadajgjhaabMg
set_option linter.unusedVariables false
namespace Go.Proofs.Ytaimbadajgjhaab
open Go.RowKit

def ok_Beats (fs gs : List Int) : Bool := dieB fs && dieB gs
def res_Beats (fs gs : List Int) : Int := if ok_Beats fs gs = true then ((beatN fs gs fs.length : Nat) : Int) else 0
def res2_Beats (fs gs : List Int) : Int := if ok_Beats fs gs = true then ((lessN fs gs fs.length : Nat) : Int) else 0
def res3_Beats (fs gs : List Int) : Int := if ok_Beats fs gs = true then (fs.length : Int) * (gs.length : Int) - ((beatN fs gs fs.length : Nat) : Int) - ((lessN fs gs fs.length : Nat) : Int) else 0
theorem ret_four {a b c a' b' c' : Int} {o o' : Bool} (h1 : a = a') (h2 : b = b') (h3 : c = c') (h4 : o = o') : Ending.returned (.tuple #[.int .i64 a, .int .i64 b, .int .i64 c, .bool o]) = .returned (.tuple #[.int .i64 a', .int .i64 b', .int .i64 c', .bool o']) := by rw [h1, h2, h3, h4]
theorem results_four {fn : Func} {t u v x : Tmp} (h : fn.results = #[.tmp t, .tmp u, .tmp v, .tmp x]) (tmps : Array Value) (P : Program) (w : World) :
    (results fn tmps).run P w = .ok (.tuple #[tmps.getD t undef, tmps.getD u undef, tmps.getD v undef, tmps.getD x undef]) w := by
  simp [results, h, go_sem]
set_option maxHeartbeats 4000000 in
theorem impl_Beats (fs : List Int) (v : Value) (gs : List Int) (u : Value) (w : World) (hn : fs.length ≤ 1048576) (h : Dv w v fs) (hm : gs.length ≤ 1048576) (g : Dv w u gs) :
    Calls Try.prog 25 #[v, u] w fun e w' => e = .returned (.tuple #[.int .i64 (res_Beats fs gs), .int .i64 (res2_Beats fs gs), .int .i64 (res3_Beats fs gs), .bool (ok_Beats fs gs)]) ∧ Below w.heap.size w w' := by
  have Hv1 := Lib.hid (fun z (hz : Below w.heap.size w z) => valid_impl fs v z hn (h.later hz))
  have Hv2 := Lib.hid (fun z (hz : Below w.heap.size w z) => valid_impl gs u z hm (g.later hz))
  have Hab := Lib.hid (fun h1 h2 z (hz : Below w.heap.size w z) => beats_any fs gs v u z h1 h2 (h.later hz) (g.later hz))
  have Hba := Lib.hid (fun h1 h2 z (hz : Below w.heap.size w z) => beats_any gs fs u v z h1 h2 (g.later hz) (h.later hz))
  have Hpr := Lib.hid (fun h1 h2 z (hz : Below w.heap.size w z) => pairs_any fs gs v u z h1 h2 (h.later hz) (g.later hz))
  obtain ⟨s, rfl, -⟩ := h
  obtain ⟨t, rfl, -⟩ := g
  have hb0 := ((Below.refl _ w).alloc (Nat.le_refl _) (.cells #[s] 27)).alloc (by simp) (.cells #[t] 27)
  have b2 := (Boxed.new w 27 s).alloc (.cells #[t] 27)
  have b3 := Boxed.new (w.alloc (.cells #[s] 27)) 27 t
  simp only [World.size_alloc] at b3
  generalize hW : (w.alloc (.cells #[s] 27)).alloc (.cells #[t] 27) = W at hb0 b3 b2
  have HW := Lib.hid hW
  have Hb0 := Lib.hid hb0
  have Hb2 := Lib.hid b2
  have Hb3 := Lib.hid b3
  have k2 := b2.cell
  have k3 := b3.cell
  clear hb0 hW b3 b2
  have He0 : ∀ o, o = ok_Beats fs gs → o = false → res_Beats fs gs = 0 ∧ res2_Beats fs gs = 0 ∧ res3_Beats fs gs = 0 := fun o h1 h2 => by
    unfold res_Beats res2_Beats res3_Beats; rw [← h1, h2]; exact ⟨rfl, rfl, rfl⟩
  cases ha : dieB fs
  · rw [ha] at Hv1
    have ho : ok_Beats fs gs = false := by unfold ok_Beats; rw [ha]; rfl
    obtain ⟨e1, e2, e3⟩ := He0 _ ho.symm rfl
    rw [e1, e2, e3, ho]
    clear e1 e2 e3 ho He0 ha
    go_enter Try.func25, Try.ntmps25
    go_wp2_with fail
    rw [HW.out]
    refine (Hv1.out _ Hb0.out).mono ?_
    rintro e w2 ⟨rfl, hb⟩
    have Hb := Lib.hid (Hb0.out.trans (hb.mono Hb0.out.size))
    clear hb
    go_wp2
    (try simp only [Exit.inBlock, Exit.then]); refine bodyPost_ret (results_four rfl _ _ _) rfl ?_
    exact ⟨rfl, Hb.out⟩
  · rw [ha] at Hv1
    cases hg : dieB gs
    · rw [hg] at Hv2
      have ho : ok_Beats fs gs = false := by unfold ok_Beats; rw [ha, hg]; rfl
      obtain ⟨e1, e2, e3⟩ := He0 _ ho.symm rfl
      rw [e1, e2, e3, ho]
      clear e1 e2 e3 ho He0 ha hg
      go_enter Try.func25, Try.ntmps25
      go_wp2_with fail
      rw [HW.out]
      refine (Hv1.out _ Hb0.out).mono ?_
      rintro e w2 ⟨rfl, hb⟩
      have Hb := Lib.hid (Hb0.out.trans (hb.mono Hb0.out.size))
      have k3' := cell_keep hb k3
      clear hb
      go_wp2_with fail
      refine (Hv2.out _ Hb.out).mono ?_
      rintro e w3 ⟨rfl, hb⟩
      have Hc := Lib.hid (Hb.out.trans (hb.mono Hb.out.size))
      clear hb
      go_wp2
      (try simp only [Exit.inBlock, Exit.then]); refine bodyPost_ret (results_four rfl _ _ _) rfl ?_
      exact ⟨rfl, Hc.out⟩
    · rw [hg] at Hv2
      obtain ⟨-, fa, -⟩ := dieB_at ha
      obtain ⟨-, ga, -⟩ := dieB_at hg
      have ho : ok_Beats fs gs = true := by unfold ok_Beats; rw [ha, hg]; rfl
      unfold res_Beats res2_Beats res3_Beats
      rw [ho, if_pos rfl, if_pos rfl, if_pos rfl, less_beat]
      have Hab2 := Lib.hid (Hab.out fa ga)
      have Hba2 := Lib.hid (Hba.out ga fa)
      have Hpr2 := Lib.hid (Hpr.out fa ga)
      have q1 := beatN_le fs gs ga fs.length
      have q2 := beatN_le gs fs fa gs.length
      have hmul := Nat.mul_le_mul fa ga
      have m1 : 0 ≤ (fs.length : Int) * (gs.length : Int) := Int.mul_nonneg (by omega) (by omega)
      have m2 : (fs.length : Int) * (gs.length : Int) ≤ 144 := by rw [← Int.natCast_mul]; omega
      generalize (fs.length : Int) * (gs.length : Int) = M at *
      generalize beatN fs gs fs.length = X at *
      generalize beatN gs fs gs.length = Y at *
      have hX : X ≤ 144 := by omega
      have hY : Y ≤ 144 := by omega
      clear ho He0 ha hg Hab Hba Hpr q1 q2 hmul
      go_enter Try.func25, Try.ntmps25
      go_wp2_with fail
      rw [HW.out]
      refine (Hv1.out _ Hb0.out).mono ?_
      rintro e w2 ⟨rfl, hb⟩
      have Hb := Lib.hid (Hb0.out.trans (hb.mono Hb0.out.size))
      have k2' := cell_keep hb k2
      have k3' := cell_keep hb k3
      clear hb
      go_wp2_with fail
      refine (Hv2.out _ Hb.out).mono ?_
      rintro e w3 ⟨rfl, hb⟩
      have Hc := Lib.hid (Hb.out.trans (hb.mono Hb.out.size))
      have j2 := cell_keep hb k2'
      have j3 := cell_keep hb k3'
      clear hb k2' k3' k2 k3
      go_wp2
      go_region_law (first
        | (go_simp; go_at_call 64; (with_reducible refine (Hab2.out _ ?_).mono ?_); (exact below_drewN Hc.out _); rintro e w4 ⟨rfl, hb⟩; have i2 := cell_keep hb j2; have i3 := cell_keep hb j3; have Hd := Lib.hid (below_step (below_drewN Hc.out _) hb (Nat.le_refl _)); clear hb)
        | (go_simp; go_at_call 64; (with_reducible refine (Hba2.out _ ?_).mono ?_); (exact Hd.out); rintro e w5 ⟨rfl, hb⟩; have n2 := cell_keep hb i2; have n3 := cell_keep hb i3; have He := Lib.hid (below_step Hd.out hb (Nat.le_refl _)); clear hb))
      all_goals
        go_wp2_with (first
          | (go_at_call 65; refine (Hpr2.out _ He.out).mono ?_; rintro e w6 ⟨rfl, hb⟩; have Hf := Lib.hid (below_step He.out hb (Nat.le_refl _)); clear hb))
        (try simp only [Exit.inBlock, Exit.then]); refine bodyPost_ret (results_four rfl _ _ _) rfl ?_
        exact ⟨rfl, Hf.out⟩
end Go.Proofs.Ytaimbadajgjhaab
