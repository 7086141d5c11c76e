/- Contracts: Beats, the model, whole. -/
import Derived.Test.YtaimbadajgjhaabMi
set_option linter.unusedVariables false
namespace Go.Proofs.Ytaimbadajgjhaab
open Go.RowKit

set_option maxHeartbeats 4000000 in
theorem spec_Beats (fs : List Int) (v : Value) (gs : List Int) (u : Value) (w : World) (hn : fs.length ≤ 1048576) (h : Dv w v fs) (hm : gs.length ≤ 1048576) (g : Dv w u gs) :
    Calls Try.prog 24 #[v, u] w fun e w' => e = .returned (.tuple #[.int .i64 (res_Beats fs gs), .int .i64 (res2_Beats fs gs), .int .i64 (res3_Beats fs gs), .bool (ok_Beats fs gs)]) ∧ Below w.heap.size w w' := by
  obtain ⟨s, rfl, h⟩ := h
  obtain ⟨t, rfl, g⟩ := g
  have hb0 := ((Below.refl _ w).alloc (Nat.le_refl _) (.cells #[s] 27)).alloc (by simp) (.cells #[t] 27)
  have b2 := (Boxed.new w 27 s).alloc (.cells #[t] 27)
  have b3 := Boxed.new (w.alloc (.cells #[s] 27)) 27 t
  simp only [World.size_alloc] at b3
  generalize hW : (w.alloc (.cells #[s] 27)).alloc (.cells #[t] 27) = W at hb0 b3 b2
  have HW := Lib.hid hW
  have Hb0 := Lib.hid hb0
  have k2 := b2.cell
  have k3 := b3.cell
  clear hb0 hW b3 b2
  have Hv1 := Lib.hid (fun z (hz : Drawn W z) => valid_spec fs s w.heap.size 0 z hn ((h.later Hb0.out).drawn hz) ((hz.cell _).trans k2))
  have Hv2 := Lib.hid (fun z (hz : Drawn W z) => valid_spec gs t (w.heap.size + 1) 0 z hm ((g.later Hb0.out).drawn hz) ((hz.cell _).trans k3))
  have Hab := Lib.hid (fun h1 h2 z (hz : Drawn W z) => beatsS_any fs gs s t z h1 h2 ((h.later Hb0.out).drawn hz) ((g.later Hb0.out).drawn hz))
  clear h g
  have He0 : ∀ o, o = ok_Beats fs gs → o = false → res_Beats fs gs = 0 ∧ res2_Beats fs gs = 0 ∧ res3_Beats fs gs = 0 := fun o h1 h2 => by
    unfold res_Beats res2_Beats res3_Beats; rw [← h1, h2]; exact ⟨rfl, rfl, rfl⟩
  cases ha : dieB fs
  · rw [ha] at Hv1
    have ho : ok_Beats fs gs = false := by unfold ok_Beats; rw [ha]; rfl
    obtain ⟨e1, e2, e3⟩ := He0 _ ho.symm rfl
    rw [e1, e2, e3, ho]
    clear e1 e2 e3 ho He0 ha
    go_enter Try.func24, Try.ntmps24
    go_wp2_with fail
    rw [HW.out]
    refine (Hv1.out _ (Drawn.refl _)).mono ?_
    rintro e w2 ⟨rfl, hd⟩
    have Hb := Lib.hid (Hb0.out.trans (hd.below _))
    clear hd
    go_wp2
    (try simp only [Exit.inBlock, Exit.then]); refine bodyPost_ret (results_four rfl _ _ _) rfl ?_
    exact ⟨rfl, Hb.out⟩
  · rw [ha] at Hv1
    cases hg : dieB gs
    · rw [hg] at Hv2
      have ho : ok_Beats fs gs = false := by unfold ok_Beats; rw [ha, hg]; rfl
      obtain ⟨e1, e2, e3⟩ := He0 _ ho.symm rfl
      rw [e1, e2, e3, ho]
      clear e1 e2 e3 ho He0 ha hg
      go_enter Try.func24, Try.ntmps24
      go_wp2_with fail
      rw [HW.out]
      refine (Hv1.out _ (Drawn.refl _)).mono ?_
      rintro e w2 ⟨rfl, hd⟩
      have Hd := Lib.hid hd
      clear hd
      go_wp2_with fail
      refine (Hv2.out _ Hd.out).mono ?_
      rintro e w3 ⟨rfl, hd⟩
      have Hc := Lib.hid (Hb0.out.trans ((Hd.out.trans hd).below _))
      clear hd
      go_wp2
      (try simp only [Exit.inBlock, Exit.then]); refine bodyPost_ret (results_four rfl _ _ _) rfl ?_
      exact ⟨rfl, Hc.out⟩
    · rw [hg] at Hv2
      obtain ⟨-, fa, -⟩ := dieB_at ha
      obtain ⟨-, ga, -⟩ := dieB_at hg
      have ho : ok_Beats fs gs = true := by unfold ok_Beats; rw [ha, hg]; rfl
      unfold res_Beats res2_Beats res3_Beats
      rw [ho, if_pos rfl, if_pos rfl, if_pos rfl, ← Int.natCast_mul]
      have Hab2 := Lib.hid (Hab.out fa ga)
      generalize fs.length * gs.length = M at *
      generalize beatN fs gs fs.length = X at *
      generalize lessN fs gs fs.length = Y at *
      clear ho He0 ha hg Hab
      go_enter Try.func24, Try.ntmps24
      go_wp2_with fail
      rw [HW.out]
      refine (Hv1.out _ (Drawn.refl _)).mono ?_
      rintro e w2 ⟨rfl, hd⟩
      have Hd := Lib.hid hd
      clear hd
      go_wp2_with fail
      refine (Hv2.out _ Hd.out).mono ?_
      rintro e w3 ⟨rfl, hd⟩
      have k2' := ((Hd.out.trans hd).cell _).trans k2
      have k3' := ((Hd.out.trans hd).cell _).trans k3
      have Hd2 := Lib.hid (Hd.out.trans hd)
      clear hd
      go_wp2_with fail
      refine (Hab2.out _ Hd2.out).mono ?_
      rintro e w4 ⟨rfl, hd⟩
      have Hc := Lib.hid (Hb0.out.trans ((Hd2.out.trans hd).below _))
      clear hd
      go_wp2
      (try simp only [Exit.inBlock, Exit.then]); refine bodyPost_ret (results_four rfl _ _ _) rfl ?_
      exact ⟨rfl, Hc.out⟩
end Go.Proofs.Ytaimbadajgjhaab
