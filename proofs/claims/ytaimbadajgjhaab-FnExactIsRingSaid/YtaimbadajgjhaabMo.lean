/- Contracts: rings of dice, in both texts. -/
import Derived.Test.YtaimbadajgjhaabMj
import Derived.Test.YtaimbadajgjhaabMn
import Derived.Deep.RegionLawGrows
set_option linter.unusedVariables false
namespace Go.Proofs.Ytaimbadajgjhaab
open Go.RowKit

/-- a die beats another one in more than half of all pairs -/
def moreB (fs gs : List Int) : Bool := decide ((fs.length : Int) * (gs.length : Int) < 2 * ((beatN fs gs fs.length : Nat) : Int))
def ringAt (ds : List (List Int)) (k : Nat) : Bool := moreB (ds.getD k []) (ds.getD ((k + 1) % ds.length) [])
def ringB (ds : List (List Int)) : Bool := (List.range ds.length).all (ringAt ds)
theorem ringB_bad {ds : List (List Int)} (k : Nat) (hk : k < ds.length) (h : ringAt ds k = false) : ringB ds = false := by
  cases e : ringB ds
  · rfl
  · rw [List.all_eq_true.1 e k (List.mem_range.2 hk)] at h; cases h
theorem ringB_good {ds : List (List Int)} (h : ∀ k, k < ds.length → ringAt ds k = true) : ringB ds = true := List.all_eq_true.2 fun k hk => h k (List.mem_range.1 hk)
theorem ret_two {a b a' b' : Bool} (h1 : b = b') (h2 : a = a') : Ending.returned (.tuple #[.bool a, .bool b]) = .returned (.tuple #[.bool a', .bool b']) := by rw [h1, h2]
set_option maxHeartbeats 1000000 in
theorem more_any (fs gs : List Int) (v u : Value) (w : World) (hn : fs.length ≤ 12) (hm : gs.length ≤ 12) (h : Sl (Value.int .i64) 0 w v fs) (g : Sl (Value.int .i64) 0 w u gs) :
    Calls Try.prog 67 #[v, u] w fun e w' => e = .returned (.bool (moreB fs gs)) ∧ Drawn w w' := by
  have H := Lib.hid (beatsS_any fs gs v u w hn hm h g)
  obtain ⟨p, cap, rfl, -⟩ := h
  obtain ⟨q, cap', rfl, -⟩ := g
  have b1 := beatN_le fs gs hm fs.length
  have E := Lib.hid (show moreB fs gs = decide ((fs.length : Int) * (gs.length : Int) < 2 * ((beatN fs gs fs.length : Nat) : Int)) from rfl)
  have hmul := Nat.mul_le_mul hn hm
  have m1 : 0 ≤ (fs.length : Int) * (gs.length : Int) := Int.mul_nonneg (by omega) (by omega)
  have m2 : (fs.length : Int) * (gs.length : Int) ≤ 144 := by rw [← Int.natCast_mul]; omega
  generalize moreB fs gs = R at *
  generalize beatN fs gs fs.length = X at *
  generalize lessN fs gs fs.length = Y at *
  generalize fs.length = n at *
  generalize gs.length = m at *
  have hX : X ≤ 144 := by omega
  clear b1
  go_enter Try.func67, Try.ntmps67
  go_wp2_with fail
  refine (H.out).mono ?_
  rintro e w2 ⟨rfl, hd⟩
  have Hd := Lib.hid hd
  clear hd
  go_wp2
  go_ret
  exact ⟨ret_bool E.out.symm, Hd.out⟩
set_option maxRecDepth 100000 in
set_option maxHeartbeats 4000000 in
theorem ring_impl (ds : List (List Int)) (v : Value) (w : World) (hb : diceB ds = true) (h : SlD w v ds) :
    Calls Try.prog 69 #[v] w fun e w' => e = .returned (.bool (ringB ds)) ∧ Below w.heap.size w w' := by
  obtain ⟨q, cap, rfl, hf⟩ := h
  have Hf := Lib.hid hf
  clear hf
  obtain ⟨h1, h6, hd⟩ := diceB_at hb
  have H12 := Lib.hid (fun k hk => (dieB_at (hd k hk)).2.1)
  have Hbe := Lib.hid (fun fs gs v u w hn hm h g => beats_any fs gs v u w hn hm h g)
  have Hpr := Lib.hid (fun fs gs v u w hn hm h g => pairs_any fs gs v u w hn hm h g)
  have Hbad := Lib.hid (fun k (hk : k < ds.length) h => ringB_bad (ds := ds) k hk h)
  have Hok := Lib.hid (ringB_good (ds := ds))
  have Hat := Lib.hid (show ∀ k, ringAt ds k = moreB (ds.getD k []) (ds.getD ((k + 1) % ds.length) []) from fun _ => rfl)
  have Hle := Lib.hid (fun fs gs hm k => beatN_le fs gs hm k)
  generalize ringB ds = R at *
  clear hd hb
  obtain ⟨n, hn1⟩ : ∃ n, n = ds.length := ⟨_, rfl⟩
  rw [← hn1] at h1 h6 Hf H12 Hbad Hok Hat
  rw [← hn1]
  clear hn1
  go_enter Try.func69, Try.ntmps69
  go_wp2
  go_loopw [8] (fun i wr => ∃ k : Nat, k ≤ n ∧ i = .int .i64 (k : Int) ∧ Hid (∀ j, j < k → ringAt ds j = true) ∧ Hid (Below w.heap.size w wr)) (fun i _ => n - (intOf i).toNat)
  case atStart => exact ⟨0, Nat.zero_le _, rfl, Lib.hid (fun j hj => by omega), Lib.hid (Below.refl _ _)⟩
  case round =>
    obtain ⟨k, hk, rfl, hdn, Hd⟩ := hrel
    have hsz := Hd.out.size
    by_cases hlt : k < n
    · obtain ⟨hcap, b, off, rfl, hbs, hcell⟩ := Hf.out (by omega)
      obtain ⟨j, hj⟩ : ∃ j, j = (k + 1) % n := ⟨_, rfl⟩
      have hjn : j < n := by rw [hj]; exact Nat.mod_lt _ (by omega)
      have hrem : ((k : Int) + 1) % (n : Int) = (j : Int) := by rw [hj]; rfl
      have at0 := Hat.out k
      rw [← hj] at at0
      obtain ⟨s, g1, g2⟩ := hcell k hlt
      obtain ⟨t, e1, e2⟩ := hcell j hjn
      have G2 := Lib.hid (g2.later Hd.out)
      have E2 := Lib.hid (e2.later Hd.out)
      have c1 := cell_keep Hd.out g1
      have c2 := cell_keep Hd.out e1
      have l1 := H12.out k hlt
      have l2 := H12.out j hjn
      obtain ⟨ps, cs, rfl, -⟩ := g2
      obtain ⟨pt, ct, rfl, -⟩ := e2
      clear hcell g1 e1 hj
      have q1 := Hle.out (ds.getD k []) (ds.getD j []) l2 (ds.getD k []).length
      have Hbad2 := Lib.hid (Hbad.out k hlt)
      have Hdn2 : Hid (ringAt ds k = true → ∀ i, i < k + 1 → ringAt ds i = true) := Lib.hid (fun h i hi => by
        by_cases e : i = k
        · subst e; exact h
        · exact hdn.out i (by omega))
      have At := Lib.hid at0
      clear at0
      generalize ds.getD k [] = fk at *
      generalize ds.getD j [] = fj at *
      have At2 := Lib.hid (At.out.trans (show moreB fk fj = decide ((fk.length : Int) * (fj.length : Int) < 2 * ((beatN fk fj fk.length : Nat) : Int)) from rfl))
      have hb2 := (Hd.out.alloc hsz (.cells #[.slice ps fk.length cs] 27)).alloc (by simp; omega) (.cells #[.slice pt fj.length ct] 27)
      have hb3 := (((Below.refl wr.heap.size wr).alloc (Nat.le_refl _) (.cells #[.slice ps fk.length cs] 27))).alloc (by simp) (.cells #[.slice pt fj.length ct] 27)
      have b1 := (Boxed.new wr 27 (.slice ps fk.length cs)).alloc (.cells #[.slice pt fj.length ct] 27)
      have b2 := Boxed.new (wr.alloc (.cells #[.slice ps fk.length cs] 27)) 27 (.slice pt fj.length ct)
      simp only [World.size_alloc] at b2
      have c2' : (wr.alloc (.cells #[.slice ps fk.length cs] 27)).cell? ⟨b, off + j, none⟩ = some (.slice pt fj.length ct) := (World.cell?_alloc_past _ _ _ (by show b < _; omega)).trans c2
      generalize hX : beatN fk fj fk.length = X at *
      have HX := Lib.hid hX
      clear hX
      have hmul := Nat.mul_le_mul l1 l2
      have m1 : 0 ≤ (fk.length : Int) * (fj.length : Int) := Int.mul_nonneg (by omega) (by omega)
      have m2 : (fk.length : Int) * (fj.length : Int) ≤ 144 := by rw [← Int.natCast_mul]; omega
      have hX144 : X ≤ 144 := by omega
      generalize hW : (wr.alloc (.cells #[.slice ps fk.length cs] 27)).alloc (.cells #[.slice pt fj.length ct] 27) = W at hb2 hb3 b1 b2
      have HW := Lib.hid hW
      have Hb2 := Lib.hid hb2
      have Hb3 := Lib.hid hb3
      have k1 := b1.cell
      have k2 := b2.cell
      have Hcb := Lib.hid (fun z (hz : Below W.heap.size W z) => Hbe.out fk fj (.agg #[.slice ps fk.length cs]) (.agg #[.slice pt fj.length ct]) z l1 l2 ⟨_, rfl, (G2.out.later Hb3.out).later hz⟩ ⟨_, rfl, (E2.out.later Hb3.out).later hz⟩)
      have Hcp := Lib.hid (fun z (hz : Below W.heap.size W z) => Hpr.out fk fj (.agg #[.slice ps fk.length cs]) (.agg #[.slice pt fj.length ct]) z l1 l2 ⟨_, rfl, (G2.out.later Hb3.out).later hz⟩ ⟨_, rfl, (E2.out.later Hb3.out).later hz⟩)
      rw [HX.out] at Hcb
      clear hW hb2 hb3 b1 b2 G2 E2 hmul q1
      generalize hL1 : fk.length = L1 at *
      generalize hL2 : fj.length = L2 at *
      generalize hM : (L1 : Int) * (L2 : Int) = M at *
      clear hL1 hL2 Hat Hbe Hpr Hle HX At
      have hMM := Lib.hid hM
      clear hM
      have hw1 : IntKind.i64.wrap (2 * (X : Int)) = 2 * (X : Int) := IntWalk.i64_in _ (by omega)
      go_wp2
      rw [HW.out]
      go_region_law (first
        | (go_simp; go_at_call 64; (with_reducible refine (Hcb.out _ ?_).mono ?_); (exact below_drewN (Below.refl _ _) _); rintro e w4 ⟨rfl, hb⟩; have i2 := cell_keep hb k1; have i3 := cell_keep hb k2; have Hd4 := Lib.hid ((below_drewN (Below.refl W.heap.size W) _).trans hb); clear hb)
        | (go_simp; go_at_call 65; (with_reducible refine (Hcp.out _ ?_).mono ?_); (exact Hd4.out); rintro e w5 ⟨rfl, hb⟩; have He := Lib.hid (Hb2.out.trans ((below_step Hd4.out hb (Nat.le_refl _)).mono Hb2.out.size)); clear hb))
      all_goals
        by_cases hmx : M < 2 * (X : Int)
        · have Hall := Lib.hid (Hdn2.out (At2.out.trans (decide_eq_true hmx)))
          clear hw1
          go_wp2
          all_goals first
            | (exfalso; omega)
            | (go_roundw
               case rel => exact ⟨k + 1, by omega, by go_num, Hall, He⟩
               case measure => simp [intOf]; omega)
        · have E := Lib.hid (Hbad2.out (At2.out.trans (decide_eq_false hmx)))
          clear hw1
          go_wp2
          all_goals first
            | (exfalso; omega)
            | (go_ret
               exact ⟨ret_bool E.out.symm, He.out⟩)
    · obtain rfl : k = n := by omega
      have E := Lib.hid (Hok.out hdn.out)
      clear Hok Hbad
      go_wp2
      go_ret
      exact ⟨ret_bool E.out.symm, Hd.out⟩

set_option maxRecDepth 100000 in
set_option maxHeartbeats 4000000 in
theorem spec_IsRing (ds : List (List Int)) (v : Value) (w : World) (hn : ds.length ≤ 1048576) (hm : totD ds ds.length ≤ 1048576) (h : SlD w v ds) :
    Calls Try.prog 27 #[v] w fun e w' => e = .returned (.tuple #[.bool (diceB ds && decide (3 ≤ ds.length) && ringB ds), .bool (diceB ds && decide (3 ≤ ds.length))]) ∧ Below w.heap.size w w' := by
  have Hv := Lib.hid (diceS_any ds v w hn hm h)
  obtain ⟨q, cap, rfl, hf⟩ := h
  have Hf := Lib.hid hf
  clear hf
  cases hb : diceB ds
  · rw [hb] at Hv
    rw [Bool.false_and, Bool.false_and]
    clear hb hm
    generalize ds.length = n at *
    go_enter Try.func27, Try.ntmps27
    go_wp2_with fail
    refine (Hv.out).mono ?_
    rintro e w2 ⟨rfl, hd⟩
    have Hd := Lib.hid hd
    clear hd
    go_wp2
    go_ret2
    exact ⟨rfl, Hd.out.below _⟩
  · rw [hb] at Hv
    rw [Bool.true_and]
    obtain ⟨h1, h6, hd⟩ := diceB_at hb
    by_cases h3 : 3 ≤ ds.length
    · rw [decide_eq_true h3, Bool.true_and]
      have H12 := Lib.hid (fun k hk => (dieB_at (hd k hk)).2.1)
      have Hmo := Lib.hid (fun fs gs v u w hn hm h g => more_any fs gs v u w hn hm h g)
      have Hbad := Lib.hid (fun k (hk : k < ds.length) h => ringB_bad (ds := ds) k hk h)
      have Hok := Lib.hid (ringB_good (ds := ds))
      have Hat := Lib.hid (show ∀ k, ringAt ds k = moreB (ds.getD k []) (ds.getD ((k + 1) % ds.length) []) from fun _ => rfl)
      generalize ringB ds = R at *
      clear hd hb hm
      obtain ⟨n, hn1⟩ : ∃ n, n = ds.length := ⟨_, rfl⟩
      rw [← hn1] at h1 h6 h3 Hf H12 Hbad Hok Hat Hv hn
      rw [← hn1]
      clear hn1
      go_enter Try.func27, Try.ntmps27
      go_wp2_with fail
      refine (Hv.out).mono ?_
      rintro e w2 ⟨rfl, hd⟩
      have Hd := Lib.hid hd
      clear hd
      go_wp2
      go_loopw [15] (fun i wr => ∃ k : Nat, k ≤ n ∧ i = .int .i64 (k : Int) ∧ Hid (∀ j, j < k → ringAt ds j = true) ∧ Drawn w wr) (fun i _ => n - (intOf i).toNat)
      case atStart => exact ⟨0, Nat.zero_le _, rfl, Lib.hid (fun j hj => by omega), Hd.out⟩
      case round =>
        obtain ⟨k, hk, rfl, hdn, hw⟩ := hrel
        by_cases hlt : k < n
        · obtain ⟨hcap, b, off, rfl, hbs, hcell⟩ := Hf.out (by omega)
          obtain ⟨j, hj⟩ : ∃ j, j = (k + 1) % n := ⟨_, rfl⟩
          have hjn : j < n := by rw [hj]; exact Nat.mod_lt _ (by omega)
          have hrem : ((k : Int) + 1) % (n : Int) = (j : Int) := by rw [hj]; rfl
          have at0 := Hat.out k
          rw [← hj] at at0
          obtain ⟨s, g1, g2⟩ := hcell k hlt
          obtain ⟨t, e1, e2⟩ := hcell j hjn
          have c1 := (hw.cell _).trans g1
          have c2 := (hw.cell _).trans e1
          have Hcall := Lib.hid (fun q => Hmo.out (ds.getD k []) (ds.getD j []) s t (wr.drewN q) (H12.out k hlt) (H12.out j hjn) ((g2.drawn hw).drewN q) ((e2.drawn hw).drewN q))
          rw [← at0] at Hcall
          clear hcell g1 e1 hj g2 e2 at0
          cases hr : ringAt ds k
          · rw [hr] at Hcall
            have E := Lib.hid (Hbad.out k hlt hr)
            clear hr
            go_wp2
            go_quiet ((go_at_call 67; exact Calls.quiet_of (Hcall.out _)))
            go_wp2
            go_ret2
            exact ⟨ret_two rfl E.out.symm, (hw.more _).below _⟩
          · rw [hr] at Hcall
            have Hdn2 : Hid (∀ i, i < k + 1 → ringAt ds i = true) := Lib.hid (fun i hi => by
              by_cases e : i = k
              · subst e; exact hr
              · exact hdn.out i (by omega))
            clear hr
            go_wp2
            go_quiet ((go_at_call 67; exact Calls.quiet_of (Hcall.out _)))
            go_wp2
            go_roundw
            case rel => exact ⟨k + 1, by omega, by go_num, Hdn2, hw.more _⟩
            case measure => simp [intOf]; omega
        · obtain rfl : k = n := by omega
          have E := Lib.hid (Hok.out hdn.out)
          clear Hok Hbad
          go_wp2
          go_ret2
          exact ⟨ret_two rfl E.out.symm, hw.below _⟩
    · rw [decide_eq_false h3, Bool.false_and]
      clear hb hm hd
      generalize ds.length = n at *
      go_enter Try.func27, Try.ntmps27
      go_wp2_with fail
      refine (Hv.out).mono ?_
      rintro e w2 ⟨rfl, hd⟩
      have Hd := Lib.hid hd
      clear hd
      go_wp2
      go_ret2
      exact ⟨rfl, Hd.out.below _⟩
def ok_IsRing (ds : List (List Int)) : Bool := diceB ds && decide (3 ≤ ds.length)
def res_IsRing (ds : List (List Int)) : Bool := diceB ds && decide (3 ≤ ds.length) && ringB ds
set_option maxHeartbeats 4000000 in
theorem impl_IsRing (ds : List (List Int)) (v : Value) (w : World) (hn : ds.length ≤ 1048576) (hm : totD ds ds.length ≤ 1048576) (h : SlD w v ds) :
    Calls Try.prog 29 #[v] w fun e w' => e = .returned (.tuple #[.bool (res_IsRing ds), .bool (ok_IsRing ds)]) ∧ Below w.heap.size w w' := by
  unfold res_IsRing ok_IsRing
  have Hv := Lib.hid (areDice_any ds v w hn hm h)
  have Hr := Lib.hid (fun hb z (hz : Below w.heap.size w z) => ring_impl ds v z hb (h.later hz))
  obtain ⟨q, cap, rfl, -⟩ := h
  cases hb : diceB ds
  · rw [hb] at Hv
    rw [Bool.false_and, Bool.false_and]
    clear hb hm
    generalize ds.length = n at *
    go_enter Try.func29, Try.ntmps29
    go_wp2_with fail
    refine (Hv.out).mono ?_
    rintro e w2 ⟨rfl, hd⟩
    have Hd := Lib.hid hd
    clear hd
    go_wp2
    go_ret2
    exact ⟨rfl, Hd.out⟩
  · rw [hb] at Hv
    rw [Bool.true_and]
    have Hr2 := Lib.hid (Hr.out hb)
    clear hb hm Hr
    generalize ringB ds = R at *
    by_cases h3 : 3 ≤ ds.length
    · rw [decide_eq_true h3, Bool.true_and]
      generalize ds.length = n at *
      go_enter Try.func29, Try.ntmps29
      go_wp2_with fail
      refine (Hv.out).mono ?_
      rintro e w2 ⟨rfl, hd⟩
      have Hd := Lib.hid hd
      clear hd
      go_wp2_with fail
      refine (Hr2.out _ Hd.out).mono ?_
      rintro e w3 ⟨rfl, hd⟩
      have Hd3 := Lib.hid (below_step Hd.out hd (Nat.le_refl _))
      clear hd
      go_wp2
      go_ret2
      exact ⟨rfl, Hd3.out⟩
    · rw [decide_eq_false h3, Bool.false_and]
      generalize ds.length = n at *
      go_enter Try.func29, Try.ntmps29
      go_wp2_with fail
      refine (Hv.out).mono ?_
      rintro e w2 ⟨rfl, hd⟩
      have Hd := Lib.hid hd
      clear hd
      go_wp2
      go_ret2
      exact ⟨rfl, Hd.out⟩
end Go.Proofs.Ytaimbadajgjhaab
