/- Tallies: maps from numbers to numbers that the call made; a step of a tally. -/
import Derived.Test.YticocfoheenmdaaQa
import Derived.Test.YticocfoheenmdaaDq
import Derived.Maps.RangeWalk
import Derived.Maps.OwnOps
import Derived.Maps.Ext
import Derived.Maps.OwnSet
set_option linter.unusedVariables false
namespace Go.Proofs.Yticocfoheenmdaa
open Go.RowKit Go.Maps

theorem lawI : Keyed Try.prog 2 := int_keyed Try.underlying2
theorem zeroI (w : World) : (zeroValue 2).run Try.prog w = .ok (.int .i64 0) w := by kernel_rfl
/-- block b is a map of at most n entries, whose keys are from 0 to below N, that reads as f -/
def TV (w : World) (b n N : Nat) (f : Int → Int) : Prop := ∃ D : DataW Unit, w.ownsMap Try.prog 2 (plainElem (H := Unit) Try.prog 2) b n D ∧ (∀ k : Int, D.atKey (.int .i64 k) (.lit (.int .i64 0)) = .lit (.int .i64 (f k))) ∧ (∀ kl : Lit, Maps.has D kl = true → ∃ k : Nat, kl = .int .i64 (k : Int) ∧ k < N)
theorem keys_in {D : DataW Unit} {N : Nat} (h : ∀ kl : Lit, Maps.has D kl = true → ∃ k : Nat, kl = .int .i64 (k : Int) ∧ k < N) (k : Int) (hk : Maps.has D (.int .i64 k) = true) : 0 ≤ k ∧ k < N := by
  obtain ⟨m, e, hm⟩ := h _ hk
  injection e with _ e
  omega
theorem grown_of_below {w w' : World} (h : Below w.heap.size w w') : w.grownBy w' none := ⟨h.os, h.tape, h.output, h.size, fun i hi _ => h.block i hi⟩
theorem TV.later {w w' : World} {b n N : Nat} {f : Int → Int} (h : TV w b n N f) (hb : Below w.heap.size w w') : TV w' b n N f := by
  obtain ⟨D, h1, h2, h3⟩ := h
  exact ⟨D, h1.kept (grown_of_below hb) (by simp), h2, h3⟩
theorem TV.kept {w w' : World} {row : Option Nat} {b n N : Nat} {f : Int → Int} (h : TV w b n N f) (hb : w.grownBy w' row) (hne : some b ≠ row) : TV w' b n N f := by
  obtain ⟨D, h1, h2, h3⟩ := h
  exact ⟨D, h1.kept hb hne, h2, h3⟩
theorem TV.mono {w : World} {b n N n' N' : Nat} {f : Int → Int} (h : TV w b n N f) (hn : n ≤ n') (hN : N ≤ N') : TV w b n' N' f := by
  obtain ⟨D, h1, h2, h3⟩ := h
  exact ⟨D, h1.mono hn, h2, fun k hk => by obtain ⟨m, e, hm⟩ := h3 k hk; exact ⟨m, e, by omega⟩⟩
theorem TV.lt {w : World} {b n N : Nat} {f : Int → Int} (h : TV w b n N f) : b < w.heap.size := by
  obtain ⟨D, h1, h2, h3⟩ := h
  exact h1.lt
theorem TV.congr {w : World} {b n N : Nat} {f g : Int → Int} (h : TV w b n N f) (e : ∀ k, f k = g k) : TV w b n N g := by
  obtain ⟨D, h1, h2, h3⟩ := h
  exact ⟨D, h1, fun k => by rw [h2 k, e k], h3⟩
theorem TV.made (w : World) (N : Nat) : TV (w.alloc (.map #[] 0)) w.heap.size 0 N (fun _ => 0) :=
  ⟨.map [], World.ownsMap_made _ _ _ _, fun k => rfl, fun k h => by simp [Maps.has] at h⟩
theorem size_le {w : World} {P : Program} {k : TypeId} {R : Value → Option (DataW Unit × List MemPlace)} {b n : Nat} {D : DataW Unit} (h : w.ownsMap P k R b n D) : Maps.size D ≤ n := by
  obtain ⟨es, clock, hb, F, hs, rfl⟩ := h
  show (List.foldr DataW.insert [] _).length ≤ n
  rw [length_read]; exact hs
/-- the map with one number more -/
def upd (f : Int → Int) (x v : Int) : Int → Int := fun k => if k = x then v else f k
theorem int_ne {a b : Int} (h : a ≠ b) : (Lit.int .i64 a) ≠ (Lit.int .i64 b) := fun e => h (by injection e)
theorem put_reads {D : DataW Unit} (hD : Maps.IsMap D) {f : Int → Int} (h : ∀ k : Int, D.atKey (.int .i64 k) (.lit (.int .i64 0)) = .lit (.int .i64 (f k))) (x v : Int) (k : Int) :
    (D.put (.int .i64 x) (.lit (.int .i64 v))).atKey (.int .i64 k) (.lit (.int .i64 0)) = .lit (.int .i64 (upd f x v k)) := by
  unfold upd
  by_cases e : k = x
  · subst e; rw [if_pos rfl, Maps.atKey_put_same hD (show WideAt.IsKeyLit (.int .i64 k) from trivial)]
  · rw [if_neg e, Maps.atKey_put_other (int_ne e), h k]
theorem put_keys {D : DataW Unit} (hD : Maps.IsMap D) {N : Nat} (h : ∀ kl : Lit, Maps.has D kl = true → ∃ k : Nat, kl = .int .i64 (k : Int) ∧ k < N) (x : Int) (d : DataW Unit) (h0 : 0 ≤ x) (h1 : x < N) (kl : Lit) (hk : Maps.has (D.put (.int .i64 x) d) kl = true) : ∃ k : Nat, kl = .int .i64 (k : Int) ∧ k < N := by
  by_cases e : kl = .int .i64 x
  · exact ⟨x.toNat, by rw [e, Int.toNat_of_nonneg h0], by omega⟩
  · rw [Maps.has_put_other e] at hk; exact h kl hk
def natOf : Lit → Nat
  | .int _ k => k.toNat
  | _ => 0
theorem size_in {w : World} {b n N : Nat} {D : DataW Unit} (h : w.ownsMap Try.prog 2 (plainElem (H := Unit) Try.prog 2) b n D) (hk : ∀ kl : Lit, Maps.has D kl = true → ∃ k : Nat, kl = .int .i64 (k : Int) ∧ k < N) : Maps.size D ≤ N := by
  obtain ⟨es, rfl, hp, hl⟩ := h.entries lawI
  have hin : ∀ p ∈ es, ∃ k : Nat, p.1 = .int .i64 (k : Int) ∧ k < N := fun p hp' => hk p.1 (by
    show es.any (fun q => q.1.sameKey p.1) = true
    exact List.any_eq_true.2 ⟨p, hp', WideAt.sameKey_self (hl p hp')⟩)
  have h2 := nodup_le (es.map fun p => natOf p.1) (List.range N) (by
    rw [List.Nodup, List.pairwise_map]
    refine List.Pairwise.imp_of_mem (fun {p q} hp1 hq1 hne e => hne ?_) hp
    obtain ⟨k, e1, _⟩ := hin p hp1
    obtain ⟨m, e2, _⟩ := hin q hq1
    rw [e1, e2] at e ⊢
    simp only [natOf, Int.toNat_natCast] at e
    rw [e]) (by
    intro x hx
    obtain ⟨p, hp1, rfl⟩ := List.mem_map.1 hx
    obtain ⟨k, e1, hk1⟩ := hin p hp1
    rw [e1]
    exact List.mem_range.2 (by simpa [natOf] using hk1))
  simpa [Maps.size] using h2
theorem TV.trim {w : World} {b n N : Nat} {f : Int → Int} (h : TV w b n N f) : TV w b N N f := by
  obtain ⟨D, h1, h2, h3⟩ := h
  have hs := size_in h1 h3
  obtain ⟨es, clock, hb, F, hs', rfl⟩ := h1
  refine ⟨_, ⟨es, clock, hb, F, ?_, rfl⟩, h2, h3⟩
  rw [Maps.size_eq, length_read] at hs
  exact hs
/-- the sum over the states that are done -/
def sumD (g : Nat → Int) (dn : Nat → Bool) : Nat → Int
  | 0 => 0
  | s + 1 => sumD g dn s + (if dn s = true then g s else 0)
theorem sumD_none (g : Nat → Int) (dn : Nat → Bool) (N : Nat) (h : ∀ s, s < N → dn s = false) : sumD g dn N = 0 := by
  induction N with
  | zero => rfl
  | succ N ih => rw [sumD, ih (fun s hs => h s (by omega)), h N (by omega)]; rfl
theorem sumD_same (g : Nat → Int) (dn dn' : Nat → Bool) (N : Nat) (h : ∀ s, s < N → dn s = dn' s) : sumD g dn N = sumD g dn' N := by
  induction N with
  | zero => rfl
  | succ N ih => rw [sumD, sumD, ih (fun s hs => h s (by omega)), h N (by omega)]
theorem sumD_one (g : Nat → Int) (dn dn' : Nat → Bool) (N x : Nat) (hx : x < N) (h0 : dn x = false) (h1 : dn' x = true) (h : ∀ s, s < N → s ≠ x → dn s = dn' s) : sumD g dn' N = sumD g dn N + g x := by
  induction N with
  | zero => omega
  | succ N ih =>
    rw [sumD, sumD]
    by_cases e : x = N
    · subst e
      rw [h0, h1, sumD_same g dn' dn x (fun s hs => (h s (by omega) (by omega)).symm)]
      simp
    · rw [ih (by omega) (fun s hs hne => h s (by omega) hne), h N (by omega) (fun e' => e e'.symm)]
      omega
theorem sumD_bd (g : Nat → Int) (dn : Nat → Bool) (M : Int) (N : Nat) (h : ∀ s, s < N → 0 ≤ g s ∧ g s ≤ M) : 0 ≤ sumD g dn N ∧ sumD g dn N ≤ N * M := by
  induction N with
  | zero => simp [sumD]
  | succ N ih =>
    have h1 := ih (fun s hs => h s (by omega))
    have h2 := h N (by omega)
    have h3 : ((N + 1 : Nat) : Int) * M = N * M + M := by rw [show ((N + 1 : Nat) : Int) = (N : Int) + 1 from rfl, Int.add_mul, Int.one_mul]
    rw [h3, sumD]
    split <;> omega
/-- the sum over all states -/
def sumA (g : Nat → Int) (N : Nat) : Int := sumD g (fun _ => true) N
theorem sumD_all (g : Nat → Int) (dn : Nat → Bool) (N : Nat) (h : ∀ s, s < N → dn s = false → g s = 0) : sumD g dn N = sumA g N := by
  unfold sumA
  induction N with
  | zero => rfl
  | succ N ih =>
    rw [sumD, sumD, ih (fun s hs => h s (by omega))]
    cases hd : dn N
    · simp [h N (by omega) hd]
    · rfl
theorem sumD_le (g : Nat → Int) (dn : Nat → Bool) (N : Nat) (h : ∀ s, s < N → 0 ≤ g s) : 0 ≤ sumD g dn N ∧ sumD g dn N ≤ sumA g N := by
  unfold sumA
  induction N with
  | zero => exact ⟨Int.le_refl _, Int.le_refl _⟩
  | succ N ih =>
    have h1 := ih (fun s hs => h s (by omega))
    have h2 := h N (by omega)
    rw [sumD, sumD, if_pos rfl]
    split <;> omega
/-- an insert of a literal -/
theorem wpList_insert_own {H : Type} {P : Program} (w : World) {ops : Array Oper} {rest : List Oper} {o : Oper} {a : Act} {Q : Exit → Act → World → Prop}
    (hg : o.guard = none) (m x v : Operand) (t : TypeId) (hop : o.op = Op.insert t m x v)
    (k e : TypeId) (K : Keyed P k) (ht : P.underlying t = some (.map k e)) (R : Value → Option (DataW H × List MemPlace)) (b n : Nat) (D : DataW H)
    (hm : a.eval m = .map (some b)) (hown : w.ownsMap P k R b n D) (hn : n < maxLen) (key val : Value) (kl : Lit) (hx : a.eval x = key) (hv : a.eval v = val) (hkey : keyOf P k key = some kl)
    (d : DataW H) (ps : List MemPlace) (hval : R val = some (d, ps))
    (hK : ∀ w', w'.ownsMap P k R b (n + 1) (D.put kl d) → w.grownBy w' (some b) → wpList P ops Q rest (a.put o.dst undef) w') :
    wpList P ops Q (o :: rest) a w := by
  refine wpList_plain hg fun K' hK' => ?_
  obtain ⟨w', hrun, r1, r2⟩ := hown.update K ht hn hkey hval
  unfold Oper.wp
  simp [execOp, hop, hm, hx, hv, hrun, Result.andThen]
  exact hK' _ _ (hK w' r1 r2)

set_option maxRecDepth 100000 in
set_option maxHeartbeats 4000000 in
theorem onward_any (K : Nat) (bound caps : Array Value) (bt n0 N N' : Nat) (f : Int → Int) (M : Nat → Int → Int) (w : World) (ht : TV w bt n0 N f) (hn0 : n0 ≤ 1000) (hN : N ≤ 1000) 
    (hbd : ∀ s, s < N → ∀ k, 0 ≤ f (s : Int) * M s k) (hbs : ∀ k, sumA (fun s => f (s : Int) * M s k) N ≤ 4611686018427387904)
    (hent : ∀ args w, (callFunc K args).run Try.prog w = .ok (.enter K args) w)
    (hc : ∀ (s : Nat) w', s < N → Below w.heap.size w w' → Calls Try.prog K (bound ++ #[.int .i64 (s : Int)] ++ caps) w' fun e w'' => ∃ bm, e = .returned (.map (some bm)) ∧ TV w'' bm 1000 N' (M s) ∧ (w'.heap.size ≤ bm ∨ (bm < w.heap.size ∧ bm ≠ bt)) ∧ Below w'.heap.size w' w'') :
    Calls Try.prog 32 #[.map (some bt), .func (.func K) bound caps] w fun e w' => ∃ bn, e = .returned (.map (some bn)) ∧ TV w' bn N' N' (fun k => sumA (fun s => f (s : Int) * M s k) N) ∧ w.heap.size ≤ bn ∧ Below w.heap.size w w' := by
  obtain ⟨D0, hown, hat0, hks⟩ := ht
  have hsz0 := size_le hown
  have Hc := Lib.hid hc
  have Hbd := Lib.hid hbd
  have Hbs := Lib.hid hbs
  have Hat0 := Lib.hid hat0
  have Hks := Lib.hid (fun k hk => keys_in hks k hk)
  clear hc hbd hat0 hks hbs
  have hmm := @run_makeMap Try.prog
  have hbl := hown.lt
  have e1 : (w.alloc (.map #[] 0)).heap.size = w.heap.size + 1 := by simp
  go_enter Try.func32, Try.ntmps32
  go_wp2_with (first
    | (at_range; refine wpList_range_own _ rfl _ 53 rfl 2 2 lawI Try.underlying53 _ bt n0 _ rfl (hown.alloc _) ?_; intro w0 hrg0 hg0 hs0)
    | go_in)
  go_frame
  rw [e1] at hrg0 hs0 ⊢
  go_loopw [13] (fun _ wr => ∃ (left : Lit → Bool) (cnt n1 : Nat), wr.ranges Try.prog 2 (plainElem (H := Unit) Try.prog 2) bt (w.heap.size + 1) n0 D0 left cnt ∧ cnt ≤ 1000 ∧ n1 ≤ 1000 * (1000 - cnt) ∧ (∀ kl, left kl = true → Maps.has D0 kl = true) ∧
      TV wr w.heap.size n1 N' (fun k => sumD (fun s => f (s : Int) * M s k) (fun s => Maps.has D0 (.int .i64 (s : Int)) && !left (.int .i64 (s : Int))) N) ∧ w.heap.size + 1 < wr.heap.size ∧ Below w.heap.size w wr)
    (fun _ wr => wr.rangeLeft bt (w.heap.size + 1))
  case atStart =>
    refine ⟨_, _, 0, hrg0, by omega, Nat.zero_le _, fun kl h => h, ?_, by rw [hs0]; omega, ((Below.refl _ _).alloc (Nat.le_refl _) _).grown hg0 (by simp) (fun j hj => by cases hj)⟩
    refine ((TV.made w N').kept hg0 (by simp)).congr fun k => ?_
    exact (sumD_none _ _ _ (fun s _ => by simp)).symm
  case round =>
    obtain ⟨left, cnt, n1, hrg, hcn, hn1, hlh, htv, hws, hnx⟩ := hrel
    go_wp2_with (first
      | (at_next; refine wpList_next_ranges_ii _ rfl _ rfl 2 2 .i64 .i64 lawI Try.underlying2 Try.underlying2 bt (w.heap.size + 1) n0 _ _ _ rfl hrg ?_ ?_)
      | go_in)
    · intro hc0 hl0
      go_wp2
      go_ret
      refine ⟨_, rfl, htv.trim.congr fun k => ?_, Nat.le_refl _, hnx⟩
      refine sumD_all _ _ _ fun s hs hd => ?_
      rw [hl0, Bool.not_false, Bool.and_true] at hd
      have h1 := Hat0.out (s : Int)
      rw [Maps.atKey_of_not_has hd] at h1
      injection h1 with h1
      injection h1 with _ h1
      rw [← h1, Int.zero_mul]
    · intro x c w1 cnt1 hwx hwc hlx hat hrg1 hlt hg1 hs1 hen
      obtain ⟨x0, x1⟩ := Hks.out x (hlh _ hlx)
      obtain ⟨s, rfl⟩ : ∃ s : Nat, x = s := ⟨x.toNat, by omega⟩
      have hcf : c = f (s : Int) := by
        have h1 := Hat0.out (s : Int)
        rw [hat] at h1
        injection h1 with h1
        injection h1
      have hnx1 : Below w.heap.size w w1 := hnx.grown hg1 hnx.size (fun j hj => by cases hj; omega)
      have Hcall := Lib.hid (Hc.out s w1 (by omega) hnx1)
      have Htv1 := Lib.hid (htv.kept hg1 (by simp))
      have Hrg1 := Lib.hid hrg1
      have Hnx1 := Lib.hid hnx1
      have HF : Hid (∀ k, 0 ≤ c * M s k) := Lib.hid (fun k => by rw [hcf]; exact Hbd.out s (by omega) k)
      have hs1' : w.heap.size + 1 < w1.heap.size := by omega
      have Hcf := Lib.hid hcf
      clear htv hrg1 hnx hnx1 hg1 hat hmm hcf
      go_wp2_with (first
        | (refine (Hcall.out).mono ?_; rintro e w2 ⟨bm, rfl, ⟨Dm, hownM, hatM, hksM⟩, hbm, hb2⟩; have HatM := Lib.hid hatM; have HksM := Lib.hid (fun k hk => keys_in hksM k hk); have Hg2 := Lib.hid (grown_of_below hb2); have hs2 := hb2.size; clear hatM hksM hb2)
        | (at_range; refine wpList_range_own _ rfl _ 53 rfl 2 2 lawI Try.underlying53 _ bm 1000 _ rfl hownM ?_; intro w3 hrgM hg3 hs3)
        | go_in)
      go_frame
      have hbml := hownM.lt
      have hszM := size_le hownM
      have hbmt : bm ≠ bt := by omega
      have hbmn : bm ≠ w.heap.size := by omega
      have hbmr : bm ≠ w.heap.size + 1 := by omega
      go_loopw [22] (fun _ wi => ∃ (leftM : Lit → Bool) (cntM n2 : Nat), wi.ranges Try.prog 2 (plainElem (H := Unit) Try.prog 2) bm w2.heap.size 1000 Dm leftM cntM ∧ cntM ≤ 1000 ∧ n2 ≤ n1 + (1000 - cntM) ∧ (∀ kl, leftM kl = true → Maps.has Dm kl = true) ∧
          Hid (wi.ranges Try.prog 2 (plainElem (H := Unit) Try.prog 2) bt (w.heap.size + 1) n0 D0 (fun z => left z && !z.sameKey (.int .i64 (s : Int))) cnt1) ∧
          TV wi w.heap.size n2 N' (fun k => sumD (fun s => f (s : Int) * M s k) (fun s => Maps.has D0 (.int .i64 (s : Int)) && !left (.int .i64 (s : Int))) N + (if (Maps.has Dm (.int .i64 k) && !leftM (.int .i64 k)) = true then c * M s k else 0)) ∧ w2.heap.size < wi.heap.size ∧ Hid (Below w.heap.size w wi))
        (fun _ wi => wi.rangeLeft bm w2.heap.size)
      case atStart =>
        refine ⟨_, _, n1, hrgM, by omega, by omega, fun kl h => h, Lib.hid ((Hrg1.out.kept Hg2.out (by simp) (by simp)).kept hg3 (by simp) (by simp)), ?_, by omega, Lib.hid ((Hnx1.out.grown Hg2.out Hnx1.out.size (fun j hj => by cases hj)).grown hg3 (by have := Hnx1.out.size; omega) (fun j hj => by cases hj))⟩
        refine ((Htv1.out.kept Hg2.out (by simp)).kept hg3 (by simp)).congr fun k => ?_
        simp
      case round =>
        obtain ⟨leftM, cntM, n2, hrgI, hcnM, hn2, hlhM, HrgT, htvI, hwi, HnxI⟩ := hrel
        go_wp2_with (first
          | (at_next; refine wpList_next_ranges_ii _ rfl _ rfl 2 2 .i64 .i64 lawI Try.underlying2 Try.underlying2 bm w2.heap.size 1000 _ _ _ rfl hrgI ?_ ?_)
          | go_in)
        · intro hc0 hl0
          go_wp2
          go_roundw
          case rel =>
            refine ⟨_, cnt1, n2, HrgT.out, by omega, by omega, fun kl h => hlh kl (by rw [Bool.and_eq_true] at h; exact h.1), htvI.congr fun k => ?_, by omega, HnxI.out⟩
            have hone := sumD_one (fun s => f (s : Int) * M s k) (fun s => Maps.has D0 (.int .i64 (s : Int)) && !left (.int .i64 (s : Int))) (fun s' => Maps.has D0 (.int .i64 (s' : Int)) && !(left (.int .i64 (s' : Int)) && !(Lit.int .i64 (s' : Int)).sameKey (.int .i64 (s : Int)))) N s (by omega) (by rw [hlx]; simp) (by rw [hlh _ hlx]; simp [Lit.sameKey]) (fun s' hs' hne => by
              have : (Lit.int .i64 (s' : Int)).sameKey (.int .i64 (s : Int)) = false := Maps.sameKey_ne (int_ne (by omega))
              rw [this]; simp)
            rw [hone, hl0, Bool.not_false, Bool.and_true, Hcf.out]
            by_cases hh : Maps.has Dm (.int .i64 k) = true
            · rw [if_pos hh]
            · rw [if_neg hh]
              have h1 := HatM.out k
              rw [Maps.atKey_of_not_has (by simpa using hh)] at h1
              injection h1 with h1
              injection h1 with _ h1
              rw [← h1, Int.mul_zero]
          case measure => rw [HrgT.out.left_eq, hrg.left_eq]; exact hlt
        · intro y d w4 cntM1 hwy hwd hly hatd hrgI1 hltM hg4 hs4 henM
          obtain ⟨y0, y1⟩ := HksM.out y (hlhM _ hly)
          have hdM : d = M s y := by
            have h1 := HatM.out y
            rw [hatd] at h1
            injection h1 with h1
            injection h1
          obtain ⟨Dn, hownN, hatN, hksN⟩ := htvI.kept hg4 (by simp; omega)
          have HatN := Lib.hid hatN
          have hbase := sumD_le (fun s => f (s : Int) * M s y) (fun s => Maps.has D0 (.int .i64 (s : Int)) && !left (.int .i64 (s : Int))) N (fun s hs => Hbd.out s hs y)
          have hone := sumD_one (fun s => f (s : Int) * M s y) (fun s => Maps.has D0 (.int .i64 (s : Int)) && !left (.int .i64 (s : Int))) (fun s' => (Maps.has D0 (.int .i64 (s' : Int)) && !left (.int .i64 (s' : Int))) || decide (s' = s)) N s (by omega) (by rw [hlx]; simp) (by simp) (fun s' hs' hne => by simp [hne])
          have hmore := (sumD_le (fun s => f (s : Int) * M s y) (fun s' => (Maps.has D0 (.int .i64 (s' : Int)) && !left (.int .i64 (s' : Int))) || decide (s' = s)) N (fun s hs => Hbd.out s hs y)).2
          rw [hone] at hmore
          have hall := Hbs.out y
          rw [← Hcf.out, ← hdM] at hmore
          have hatY := HatN.out y
          have hdone : (Maps.has Dm (.int .i64 y) && !leftM (.int .i64 y)) = false := by rw [hly]; simp
          dsimp only at hatY
          rw [hdone, if_neg Bool.false_ne_true, Int.add_zero] at hatY
          have hpr := HF.out y
          rw [← hdM] at hpr
          obtain ⟨q0, q1⟩ := hbase
          have htop := Int.le_trans hmore hall
          clear q1 hmore hall hone
          generalize hX : sumD (fun s => f (s : Int) * M s y) (fun s => Maps.has D0 (.int .i64 (s : Int)) && !left (.int .i64 (s : Int))) N = X at hatY q0 htop
          have HX := Lib.hid hX
          have HdM := Lib.hid hdM
          have Hlt := Lib.hid hly
          have Hbm : Hid (bm ≠ w.heap.size ∧ bm ≠ bt) := Lib.hid ⟨hbmn, hbmt⟩
          clear hX hdM hly hdone hatd hbmn hbmt hbmr hlx hlh
          go_wp2_with (first
            | (at_lookup; refine wpList_lookup_own_int _ rfl _ _ 53 rfl 2 2 .i64 lawI Try.underlying53 Try.underlying2 (zeroI _) w.heap.size n2 Dn rfl hownN _ _ rfl (keyOf_int_mk Try.underlying2 hwy) ?_; intro v hatv hwv; obtain rfl : v = X := (by rw [hatY] at hatv; injection hatv with h; injection h with _ h; exact h.symm))
            | (at_mapUpdate; refine wpList_mapUpdate_own _ rfl _ _ _ 53 rfl 2 2 lawI Try.underlying53 _ w.heap.size n2 Dn rfl hownN (by unfold maxLen; omega) _ _ _ rfl rfl (keyOf_int_mk Try.underlying2 hwy) _ [] (plainElem_int Try.underlying2 (WalkArith.wf_i64 (by omega))) ?_; intro w5 hown5 hg5; go_frame)
            | go_in)
          have hz5 := hg5.size
          have hz4 := hg4.size
          go_roundw
          case rel =>
            refine ⟨_, cntM1, n2 + 1, hrgI1.kept hg5 (fun e => Hbm.out.1 (Option.some.inj e)) (fun e => by have := Option.some.inj e; omega), by omega, by omega, fun kl h => hlhM kl (by rw [Bool.and_eq_true] at h; exact h.1), Lib.hid ((HrgT.out.kept hg4 (fun e => by have := Option.some.inj e; omega) (fun e => by have := Option.some.inj e; omega)).kept hg5 (fun e => by have := Option.some.inj e; omega) (fun e => by have := Option.some.inj e; omega)), ⟨_, hown5, fun k => ?_, fun k => put_keys hownN.isMap hksN y _ y0 y1 k⟩, by omega, Lib.hid ((HnxI.out.grown hg4 HnxI.out.size (fun j hj => by cases hj; omega)).grown hg5 (by have := HnxI.out.size; omega) (fun j hj => by cases hj; exact Nat.le_refl _))⟩
            rw [put_reads hownN.isMap HatN.out y _ k]
            congr 2
            unfold upd
            by_cases e : k = y
            · subst e
              have hd : (Maps.has Dm (.int .i64 k) && !(leftM (.int .i64 k) && !(Lit.int .i64 k).sameKey (.int .i64 k))) = true := by rw [hlhM _ Hlt.out]; simp [Lit.sameKey]
              rw [if_pos rfl]
              dsimp only
              rw [hd, if_pos rfl, HX.out, HdM.out]
            · have hd : (Lit.int .i64 k).sameKey (.int .i64 y) = false := Maps.sameKey_ne (int_ne e)
              rw [if_neg e]
              dsimp only
              rw [hd]; simp
          case measure => rw [(hrgI1.kept hg5 (fun e => Hbm.out.1 (Option.some.inj e)) (fun e => by have := Option.some.inj e; omega)).left_eq, hrgI.left_eq]; exact hltM
end Go.Proofs.Yticocfoheenmdaa
