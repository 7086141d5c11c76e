/- Contracts: pairs of players, in the program. -/
import Derived.Test.YtfipcpbibmhjoabAk
import Derived.Deep.AppendLies
import Derived.Deep.RegionLaw
set_option linter.unusedVariables false
namespace Go.Proofs.Ytfipcpbibmhjoab
open Go.RowKit
theorem zerosI_len (n : Nat) : (zerosI n).length = n := by simp [zerosI]
theorem zerosI_all (n : Nat) : allB 0 1000000 (zerosI n) = true := allB_all (fun k hk => by
  rw [zerosI_len] at hk
  rw [show (zerosI n).getD k 0 = 0 by simp [zerosI, List.getD, hk]]; rfl)
def lenW : Value → Nat
  | .slice _ n _ => n
  | _ => 0
theorem Sw.tight {α : Type} {mk : α → Value} {d : α} {w : World} {D off n cap : Nat} {fs : List α} {lo hi : Nat} (h : Sw mk d w (.slice (some ⟨D, off, none⟩) n cap) fs lo hi) : Sw mk d w (.slice (some ⟨D, off, none⟩) n cap) fs D (D + 1) := by
  obtain ⟨p, cap', e, h⟩ := h
  refine ⟨p, cap', e, fun h0 => ?_⟩
  obtain ⟨hcap, b, off', e2, g1, g2, g3, hc⟩ := h h0
  cases e
  cases e2
  exact ⟨hcap, D, off, rfl, Nat.le_refl _, Nat.lt_succ_self _, by omega, hc⟩
theorem Sw.grown1 {α : Type} {mk : α → Value} {d : α} {w w' : World} {v : Value} {fs : List α} {T : Nat} {row : Option Nat} (h : Sw mk d w v fs T (T + 1)) (g : w.grownBy w' row) (hne : row ≠ some T) : Sw mk d w' v fs T (T + 1) := by
  obtain ⟨p, cap, rfl, h⟩ := h
  refine ⟨p, cap, rfl, fun h0 => ?_⟩
  obtain ⟨hcap, b, off, rfl, g1, g2, g3, hc⟩ := h h0
  have hbT : b = T := by omega
  have hb : w'.heap[b]? = w.heap[b]? := g.block b (by omega) (fun e => hne (by rw [← e, hbT]))
  have := g.size
  exact ⟨hcap, b, off, rfl, g1, g2, by omega, fun i hi => ⟨(World.cell?_of_block (a := ⟨b, off + i, none⟩) hb).trans (hc i hi).1, (World.frozen?_of_block (a := ⟨b, off + i, none⟩) hb).trans (hc i hi).2⟩⟩
theorem Sw.tail {α : Type} {mk : α → Value} {d : α} {w : World} {D off n cap : Nat} {x : α} {xs : List α} {lo hi : Nat} (h : Sw mk d w (.slice (some ⟨D, off, none⟩) (n + 1) (cap + 1)) (x :: xs) lo hi) (hc1 : n ≤ cap) : Sw mk d w (.slice (some ⟨D, off + 1, none⟩) n cap) xs lo hi := by
  obtain ⟨p, cap', e, h⟩ := h
  have hl : xs.length = n := by cases e; rfl
  obtain ⟨hcap, b, off', e2, g1, g2, g3, hc⟩ := h (by simp)
  cases e
  cases e2
  refine ⟨_, _, rfl, fun h0 => ⟨hc1, D, off + 1, rfl, g1, g2, g3, fun i hi => ?_⟩⟩
  have := hc (i + 1) (by simp; exact hi)
  rw [show off + 1 + i = off + (i + 1) by omega]
  exact this
theorem only_grown2 {w w' : World} {D : Nat} (g : Only D (D + 1) w w') : w.grownBy w' (some D) :=
  ⟨g.os, g.tape, g.output, by rw [g.size]; exact Nat.le_refl _, fun i _ hne => g.block i (fun ⟨a, b⟩ => hne (by rw [show i = D by omega]))⟩
theorem cell_two_new (w : World) (x y : Value) (t : TypeId) : ∀ j u, [x, y][j]? = some u → (w.alloc (.cells #[x, y] t)).cell? ((⟨w.heap.size, 0, none⟩ : Addr).add j) = some u := by
  intro j u hj
  have h := alloc2_cells w x y t
  match j, hj with
  | 0, hj => simp at hj; subst hj; exact h.1
  | 1, hj => simp at hj; subst hj; exact h.2
  | j + 2, hj => simp at hj
theorem rowI_getD (l : List Nat) (j : Nat) : (rowI l).getD j 0 = ((l.getD j 0 : Nat) : Int) := by
  unfold rowI
  by_cases h : j < l.length
  · simp [List.getD, h]
  · simp [List.getD, h]
def pickP (n f : Nat) (M : List Int) (y : Int) : Bool := !(y.toNat == f) && (M.getD (f * n + y.toNat) 0 == 0)
theorem swiss_find {n f : Nat} {M : List Int} {rest : List Nat} (hd : (f :: rest).Nodup) {z : Int} (h : firstAt (pickP n f M) (rowI (f :: rest)) z) :
    (z = -1 ∧ rest.find? (fun g => M.getD (f * n + g) 0 == 0) = none) ∨ ∃ k g : Nat, z = (k : Int) + 1 ∧ k < rest.length ∧ rest.getD k 0 = g ∧ rest.find? (fun g => M.getD (f * n + g) 0 == 0) = some g ∧ (rowI (f :: rest)).eraseIdx (k + 1) = rowI (f :: rest.erase g) := by
  obtain ⟨hf, hr⟩ := List.nodup_cons.1 hd
  have hp : ∀ j, j < rest.length → pickP n f M ((rowI (f :: rest)).getD (j + 1) 0) = (M.getD (f * n + rest.getD j 0) 0 == 0) := fun j hj => by
    rw [rowI_getD]
    unfold pickP
    have e : (f :: rest).getD (j + 1) 0 = rest.getD j 0 := rfl
    rw [e, Int.toNat_natCast]
    have hm : rest.getD j 0 ∈ rest := by rw [getD_lt _ _ _ hj]; exact List.getElem_mem hj
    have hne : (rest.getD j 0 == f) = false := by
      rw [beq_eq_false_iff_ne]
      intro e; rw [e] at hm; exact hf hm
    rw [hne]; rfl
  rcases h with ⟨rfl, h⟩ | ⟨k, rfl, hk, hpk, h⟩
  · refine .inl ⟨rfl, List.find?_eq_none.2 (fun g hg => ?_)⟩
    obtain ⟨j, hj, rfl⟩ := List.getElem_of_mem hg
    have h1 := h (j + 1) (by rw [rowI_len]; simpa using hj)
    rw [hp j hj, getD_lt _ _ _ hj] at h1
    rw [h1]; exact Bool.false_ne_true
  · cases k with
    | zero =>
      exfalso
      rw [rowI_getD] at hpk
      unfold pickP at hpk
      have e : (f :: rest).getD 0 0 = f := rfl
      rw [e, Int.toNat_natCast] at hpk
      simp at hpk
    | succ k =>
      rw [rowI_len, List.length_cons] at hk
      have hk2 : k < rest.length := by omega
      rw [hp k hk2] at hpk
      have hg : rest = rest.take k ++ rest.getD k 0 :: rest.drop (k + 1) := by
        rw [getD_lt _ _ _ hk2, ← List.drop_eq_getElem_cons hk2, List.take_append_drop]
      have hbefore : ∀ x ∈ rest.take k, (M.getD (f * n + x) 0 == 0) = false := fun x hx => by
        obtain ⟨j, hj, rfl⟩ := List.getElem_of_mem hx
        have hj2 : j < k := by rw [List.length_take] at hj; omega
        have h1 := h (j + 1) (by omega)
        rw [hp j (by omega), getD_lt _ _ _ (show j < rest.length by omega)] at h1
        rw [List.getElem_take]; exact h1
      obtain ⟨g, hgg⟩ : ∃ g, g = rest.getD k 0 := ⟨_, rfl⟩
      rw [← hgg] at hpk hg
      have hgn : g ∉ rest.take k := fun hx => by rw [hbefore g hx] at hpk; cases hpk
      refine .inr ⟨k, g, by omega, hk2, hgg.symm, ?_, ?_⟩
      · rw [hg, List.find?_append, List.find?_eq_none.2 (fun x hx => by rw [hbefore x hx]; exact Bool.false_ne_true), List.find?_cons, hpk]; rfl
      · have e1 : rest.erase g = rest.take k ++ rest.drop (k + 1) := by
          have := erase_place (A := rest.take k) (B := rest.drop (k + 1)) hgn
          rw [← hg] at this; exact this
        rw [e1, List.eraseIdx_eq_take_drop_succ]
        unfold rowI
        simp [List.map_take, List.map_drop]
set_option maxRecDepth 100000 in
set_option maxHeartbeats 4000000 in
theorem swiss_good (s M : List Int) (vs vM : Value) (n : Nat) (w : World) (hs : Sl (Value.int .i64) 0 w vs s) (hM : Sl (Value.int .i64) 0 w vM M) (hn : s.length = n) (h2 : 2 ≤ n) (h16 : n ≤ 16) (hev : n % 2 = 0) (ga : allB 0 1000 s = true) (gm : metP n M) (L : List Nat) (hL : Ord s (zerosI n) n L) (R : Option (List Nat)) (hR : pairT n M n L [] = R) :
    Calls Try.prog 13 #[vs, vM] w fun e w' => ∃ r, e = .returned (.tuple #[r, .bool R.isSome]) ∧ Sw (Value.int .i64) 0 w' r (rowI (R.getD [])) w.heap.size w'.heap.size ∧ Below w.heap.size w w' := by
  obtain ⟨p2, cap2, e2, -⟩ : ∃ p cap, vM = .slice p M.length cap ∧ True := by obtain ⟨p, cap, e, -⟩ := hM; exact ⟨p, cap, e, trivial⟩
  subst e2
  obtain ⟨i0, hi, hz0, hz1, hz2⟩ := info_parts (show (Try.prog.info? 2).map (fun i => (i.zero, i.size, i.bytes)) = some (some (.int .i64 0), 1, 8) by kernel_rfl)
  obtain ⟨w1, hw1⟩ : ∃ z, z = w.alloc (.cells #[.slice p2 M.length cap2] 22) := ⟨_, rfl⟩
  have hB1 : Below w.heap.size w w1 := by rw [hw1]; exact (Below.refl _ w).alloc (Nat.le_refl _) _
  have hzz1 : w1.heap.size = w.heap.size + 1 := by rw [hw1]; simp
  have k3w1 : w1.cell? ⟨w.heap.size, 0, none⟩ = some (.slice p2 M.length cap2) := by rw [hw1]; exact World.cell?_alloc_at _ _ _ _ rfl
  have hs1 := hs.later hB1
  have hM1 := hM.later hB1
  have hml : M.length ≤ 1048576 := by have := mul_le16 h16 h16; rw [gm.1]; omega
  have HT := Lib.hid (fun vz z (hz : Below w1.heap.size w1 z) (hv : Sl (Value.int .i64) 0 z vz (zerosI n)) => tie_good s (zerosI n) vs vz n z (hs1.later hz) hv hn (zerosI_len n) h2 h16 ga (zerosI_all n))
  have HM := Lib.hid (fun z (hz : Below w1.heap.size w1 z) => areMet_any M (.slice p2 M.length cap2) n z h16 hml (hM1.later hz))
  rw [metB_yes gm] at HM
  have HMs := Lib.hid (fun z (hz : Below w1.heap.size w1 z) => hM1.later hz)
  have HB1 := Lib.hid hB1
  have HML := Lib.hid gm.1
  have HL := Lib.hid hL
  have hmod : (n : Int).tmod 2 = 0 := by rw [Int.tmod_eq_emod_of_nonneg (by omega)]; omega
  have hcell : (madeCells (Value.int .i64 0).cells (n * 1)).toList = (zerosI n).map (Value.int .i64) := by
    rw [zerosI, Nat.mul_one, List.map_replicate]; exact made1 _ n
  obtain ⟨p1, cap1, e1, -⟩ := hs
  rw [hn] at e1
  subst e1
  clear hs1 hM1 hM hB1 ga gm hn hml hL
  go_enter Try.func13, Try.ntmps13
  go_wp2_with (at_make; refine wpList_make_full _ rfl _ _ 22 rfl (w.heap.size + 1) 2 i0 (.int .i64 0) 1 (by kernel_rfl) hi hz0 hz1 .i64 .i64 n n n rfl rfl rfl rfl (by rw [hz2]; omega) (by unfold maxLen; omega) (by simp) ?_; intro w2 hown hgrow)
  rw [hcell] at hown
  have hB12 : Below w1.heap.size w1 w2 := by
    rw [hw1]
    exact (Below.refl _ _).grown hgrow (Nat.le_refl _) (by simp)
  have hzs := (Sw.of_owns (d := 0) hown (zerosI_len n)).sl
  simp only [World.size_alloc] at hzs
  clear hown hgrow hcell hw1
  refine (HT.out _ w2 hB12 hzs).mono ?_
  rintro e w3 ⟨D, l0, rfl, hl0, hsw, hb3⟩
  have hLL : L = l0 := HL.out.unique hl0
  subst hLL
  obtain ⟨_, _, eD, ⟨hD1, hD2, _⟩, _, _, _⟩ := Sw.open' hsw 0 (by rw [rowI_len, HL.out.len]; omega)
  cases eD
  have HB3 := Lib.hid (hB12.trans (hb3.mono hB12.size))
  have hD3 : w.heap.size + 1 ≤ D := by have := hB12.size; omega
  have HW3 := Lib.hid hsw
  have k3 := cell_keep HB3.out k3w1
  clear hsw hzs hb3 hl0 hB12 HT
  have hn0 : w.heap.size < w3.heap.size := by omega
  have k4 : (w3.alloc (.cells #[.int .i64 (n : Int)] 3)).cell? ⟨w.heap.size, 0, none⟩ = some (.slice p2 M.length cap2) := by rw [World.cell?_alloc_past _ _ _ hn0]; exact k3
  have k8 : (w3.alloc (.cells #[.int .i64 (n : Int)] 3)).cell? ⟨w3.heap.size, 0, none⟩ = some (.int .i64 (n : Int)) := World.cell?_alloc_at _ _ _ _ rfl
  have HB4 := Lib.hid (HB3.out.alloc HB3.out.size (.cells #[.int .i64 (n : Int)] 3))
  have HM4 := Lib.hid (HM.out _ HB4.out)
  go_wp2_with fail
  refine (HM4.out).mono ?_
  rintro e w5 ⟨rfl, hb5⟩
  have hsz5 : w3.heap.size + 1 ≤ w5.heap.size := by have := hb5.size; simp only [World.size_alloc] at this; omega
  have K8 := Lib.hid (cell_keep hb5 k8)
  have HB5 := Lib.hid (HB4.out.trans (hb5.mono HB4.out.size))
  have HW5 := Lib.hid (HW3.out.later (((Below.refl w3.heap.size w3).alloc (Nat.le_refl _) _).trans (hb5.mono (by simp))))
  clear hb5 k4 k8 HB4 HM4 HM HB3 HW3
  have HW6 := Lib.hid HW5.out.tight
  have HP0 : Hid (L.length = n ∧ ([] : List Nat).length = 2 * 0 ∧ n ≤ n ∧ L.Nodup ∧ (∀ x ∈ L, x < n) ∧ pairT n M n L [] = R) := Lib.hid ⟨HL.out.len, rfl, Nat.le_refl _, ord_nodup HL.out.1, fun x hx => (HL.out.2 x).1 hx, hR⟩
  have HO0 : Hid (w5.ownsRow w5.heap.size 2 1 (.slice none 0 0) (2 * 0) ((rowI []).map (Value.int .i64))) := Lib.hid ⟨rfl, .inl ⟨rfl, rfl⟩⟩
  clear HW5 HL hR
  go_wp2
  go_loopw [6, 9] (fun lv pv wr => ∃ (r m c t : Nat) (l out : List Nat) (vo : Value), m + 2 * r = n ∧ c + r = n ∧ lv = .slice (some ⟨D, r, none⟩) m c ∧ vo = pv ∧ Hid (l.length = m ∧ out.length = 2 * r ∧ m ≤ t ∧ l.Nodup ∧ (∀ x ∈ l, x < n) ∧ pairT n M t l out = R) ∧ Hid (Sw (Value.int .i64) 0 wr (.slice (some ⟨D, r, none⟩) m c) (rowI l) D (D + 1)) ∧ Hid (wr.ownsRow w5.heap.size 2 1 vo (2 * r) ((rowI out).map (Value.int .i64))) ∧ Hid (wr.cell? ⟨w3.heap.size, 0, none⟩ = some (.int .i64 (n : Int))) ∧ Hid (Below w1.heap.size w1 wr) ∧ w5.heap.size ≤ wr.heap.size) (fun lv _ _ => lenW lv)
  case atStart => exact ⟨0, n, n, n, L, [], _, by omega, by omega, rfl, rfl, HP0, HW6, HO0, K8, HB5, Nat.le_refl _⟩
  case round =>
    clear HP0 HW6 HO0 K8 HB5
    obtain ⟨r, m, c, t, l, out, vo, hm, hc, rfl, rfl, HP, HS, HO, K8, HB, hsz⟩ := hrel
    by_cases h0 : m = 0
    · subst h0
      obtain ⟨q1, q2, q3, q4, q5, q6⟩ := HP.out
      rw [List.eq_nil_of_length_eq_zero q1, pairT_nil] at q6
      subst q6
      have HSo := Lib.hid (Sw.of_owns (d := 0) HO.out (by rw [rowI_len]; exact q2))
      clear q1 q2 q3 q4 q5 HP HS HO K8
      go_wp2
      go_ret2
      exact ⟨_, rfl, HSo.out.mono (by omega) (Nat.le_refl _) (Nat.le_refl _), HB1.out.trans (HB.out.mono (by omega))⟩
    · obtain ⟨q1, q2, q3, q4, q5, q6⟩ := HP.out
      obtain ⟨t, rfl⟩ : ∃ z, t = z + 1 := ⟨t - 1, by omega⟩
      obtain ⟨f, rest, rfl⟩ : ∃ f rest, l = f :: rest := by
        cases l with
        | nil => exact absurd q1.symm h0
        | cons f rest => exact ⟨f, rest, rfl⟩
      have hm2 : 2 ≤ m := by omega
      have hfn : f < n := q5 f (by simp)
      have hDs : D < wr.heap.size := by omega
      have hlen : (rowI (f :: rest)).length = m := by rw [rowI_len]; exact q1
      obtain ⟨_, _, eD, _, _, c0, _⟩ := Sw.open' HS.out 0 (by omega)
      cases eD
      have c0 : wr.cell? ⟨D, r, none⟩ = some (.int .i64 (f : Int)) := c0
      have HB6 := Lib.hid (HB.out.alloc HB.out.size (.cells #[.int .i64 (f : Int)] 2))
      have HS6 := Lib.hid (HS.out.later ((Below.refl wr.heap.size wr).alloc (Nat.le_refl _) (.cells #[.int .i64 (f : Int)] 2)))
      have d1 : (wr.alloc (.cells #[.int .i64 (f : Int)] 2)).cell? ⟨wr.heap.size, 0, none⟩ = some (.int .i64 (f : Int)) := World.cell?_alloc_at _ _ _ _ rfl
      have d3 : (wr.alloc (.cells #[.int .i64 (f : Int)] 2)).cell? ⟨w.heap.size, 0, none⟩ = some (.slice p2 M.length cap2) := cell_keep HB6.out k3w1
      have d8 : (wr.alloc (.cells #[.int .i64 (f : Int)] 2)).cell? ⟨w3.heap.size, 0, none⟩ = some (.int .i64 (n : Int)) := by rw [World.cell?_alloc_past _ _ _ (by show w3.heap.size < wr.heap.size; omega)]; exact K8.out
      have HF := Lib.hid (first_any (pickP n f M) (rowI (f :: rest)) (.slice (some ⟨D, r, none⟩) m c) 50 #[.pointer (some ⟨wr.heap.size, 0, none⟩), .pointer (some ⟨w.heap.size, 0, none⟩), .pointer (some ⟨w3.heap.size, 0, none⟩)] (wr.alloc (.cells #[.int .i64 (f : Int)] 2)) (by omega) HS6.out.sl (run_enter Try.func50 (by kernel_rfl) (by kernel_rfl)) (fun j hj => by
        rw [rowI_getD]
        have hjl : j < (f :: rest).length := by rw [rowI_len] at hj; exact hj
        have hc9 := clo_swiss n f ((f :: rest).getD j 0) M (.slice p2 M.length cap2) wr.heap.size w.heap.size w3.heap.size _ (HMs.out _ HB6.out) HML.out h16 hfn (q5 _ (by rw [getD_lt _ _ _ hjl]; exact List.getElem_mem hjl)) d1 d3 d8
        unfold pickP
        rw [Int.toNat_natCast]
        exact hc9))
      clear HP c0
      have c0 : wr.cell? ⟨D, r, none⟩ = some (.int .i64 (f : Int)) := by
        obtain ⟨_, _, eD, _, _, cc, _⟩ := Sw.open' HS.out 0 (by omega)
        cases eD
        exact cc
      go_wp2_with fail
      refine (HF.out).mono ?_
      rintro e wx ⟨z, rfl, hz, rfl⟩
      clear HF
      have hDn : w1.heap.size ≤ D := by omega
      rcases swiss_find q4 hz with ⟨rfl, hnone⟩ | ⟨k, g, rfl, hk, hg, hsome, herase⟩
      · have hRn : none = R := by rw [← q6]; exact (pairT_none hnone).symm
        subst hRn
        clear q1 q2 q3 q4 q5 q6 hz HS HS6 HO K8 hnone
        go_wp2_with fail
        go_ret2
        exact ⟨_, rfl, Sw.nil _ _ _ _ _ _ _, HB1.out.trans (HB6.out.mono (by omega))⟩
      · have q7 : pairT n M t (rest.erase g) (out ++ [f, g]) = R := by rw [← q6]; exact (pairT_some hsome).symm
        have hgr : g ∈ rest := List.mem_of_find?_eq_some hsome
        obtain ⟨m, rfl⟩ : ∃ z, m = z + 2 := ⟨m - 2, by omega⟩
        obtain ⟨c, rfl⟩ : ∃ z, c = z + 1 := ⟨c - 1, by omega⟩
        have hr1 : rest.length = m + 1 := by simpa using q1
        have hkm : k + 1 < m + 2 := by omega
        obtain ⟨_, _, eD, _, _, cg, _⟩ := Sw.open' HS6.out (k + 1) (by rw [hlen]; exact hkm)
        cases eD
        rw [rowI_getD, show (f :: rest).getD (k + 1) 0 = g from hg] at cg
        have HPn : Hid ((rest.erase g).length = m ∧ (out ++ [f, g]).length = 2 * (r + 1) ∧ m ≤ t ∧ (rest.erase g).Nodup ∧ (∀ x ∈ rest.erase g, x < n) ∧ pairT n M t (rest.erase g) (out ++ [f, g]) = R) := Lib.hid ⟨by rw [List.length_erase_of_mem hgr]; omega, by simp [q2]; omega, by omega, (List.nodup_cons.1 q4).2.erase g, fun x hx => q5 x (List.mem_cons_of_mem _ (List.mem_of_mem_erase hx)), q7⟩
        have dk : decide ((k : Int) + 1 < 0) = false := decide_eq_false (by omega)
        have dq : (0 ≤ (k : Int) + 1 ∧ (k : Int) + 1 < ((m + 2 : Nat) : Int)) = True := eq_true ⟨by omega, by omega⟩
        have dq2 : (0 ≤ (k : Int) + 1 ∧ (k : Int) + 1 < (m : Int) + 2) = True := eq_true ⟨by omega, by omega⟩
        have Hout : Hid ((rowI out).map (Value.int .i64) ++ [.int .i64 (f : Int), .int .i64 (g : Int)] = (rowI (out ++ [f, g])).map (Value.int .i64)) := Lib.hid (by simp [rowI])
        clear q1 q2 q3 q4 q5 q6 q7 hz hg hgr hsome hr1
        go_wp2_with fail
        obtain ⟨wa, hwa⟩ : ∃ z, z = (wr.alloc (.cells #[.int .i64 (f : Int)] 2)) := ⟨_, rfl⟩
        have hoa : wa.ownsRow w5.heap.size 2 1 vo (2 * r) ((rowI out).map (Value.int .i64)) := by rw [hwa]; exact HO.out.alloc _
        have hsa : wa.heap.size = wr.heap.size + 1 := by rw [hwa]; simp
        clear d3
        rw [← hwa] at HB6 HS6 d1 d8 cg
        rw [← hwa]
        clear hwa
        have d1' : wa.drew.cell? ⟨wr.heap.size, 0, none⟩ = some (.int .i64 (f : Int)) := d1
        have cg' : wa.drew.cell? ⟨D, r + (k + 1), none⟩ = some (.int .i64 (g : Int)) := cg
        have HO7 : Hid ((wa.drew.alloc (.cells #[.int .i64 (f : Int), .int .i64 (g : Int)] 2)).ownsRow w5.heap.size 2 1 vo (2 * r) ((rowI out).map (Value.int .i64))) := Lib.hid ((show wa.drew.ownsRow w5.heap.size 2 1 vo (2 * r) ((rowI out).map (Value.int .i64)) from hoa).alloc _)
        have hs7 : (wa.drew.alloc (.cells #[.int .i64 (f : Int), .int .i64 (g : Int)] 2)).heap.size = wr.heap.size + 2 := by rw [World.size_alloc]; show wa.heap.size + 1 = _; omega
        have HC9 : Hid (∀ j u, [Value.int .i64 (f : Int), .int .i64 (g : Int)][j]? = some u → (wa.drew.alloc (.cells #[.int .i64 (f : Int), .int .i64 (g : Int)] 2)).cell? ((⟨wr.heap.size + 1, 0, none⟩ : Addr).add j) = some u) := Lib.hid (by
          have h9 := cell_two_new wa.drew (.int .i64 (f : Int)) (.int .i64 (g : Int)) 2
          rw [show wa.drew.heap.size = wr.heap.size + 1 from hsa] at h9
          exact h9)
        have HS7 : Hid (Sw (Value.int .i64) 0 (wa.drew.alloc (.cells #[.int .i64 (f : Int), .int .i64 (g : Int)] 2)) (.slice (some ⟨D, r, none⟩) (m + 2) (c + 1)) (rowI (f :: rest)) D (D + 1)) := Lib.hid (HS6.out.later ((Below.refl _ wa).drew.alloc (Nat.le_refl _) _))
        have k88 : (wa.drew.alloc (.cells #[.int .i64 (f : Int), .int .i64 (g : Int)] 2)).cell? ⟨w3.heap.size, 0, none⟩ = some (.int .i64 (n : Int)) := by rw [World.cell?_alloc_past _ _ _ (by show w3.heap.size < wa.heap.size; omega)]; exact d8
        have K88 := Lib.hid k88
        have HB7 := Lib.hid (HB6.out.drew.alloc (HB6.out.drew.size) (.cells #[.int .i64 (f : Int), .int .i64 (g : Int)] 2))
        have Hvo := Lib.hid (fun b (hb : vo.ownBlock = some b) => (HO.out.lt b hb).1)
        have HI2 := Lib.hid (ints_oneCell .i64 [(f : Int), (g : Int)])
        have hb7 : w5.heap.size ≤ (wa.drew.alloc (.cells #[.int .i64 (f : Int), .int .i64 (g : Int)] 2)).heap.size := by rw [hs7]; omega
        have Hoa := Lib.hid hoa
        clear HO HS HS6 K8 k88 d8 hoa HO7 HC9 d1' cg'
        have hmax : 2 * r + 2 ≤ maxLen := by unfold maxLen; omega
        have hby : (2 * r + 2) * 8 ≤ 140737488355328 := by omega
        have hsx : w5.heap.size ≤ wa.heap.size + 1 := by omega
        have Hsa := Lib.hid hsa
        have Hs7 := Lib.hid hs7
        clear hsa hs7 hb7
        go_region_law ((refine step_append_lies _ (by rfl) _ _ _ (by rfl) w5.heap.size 2 i0 _ 1 8 (by kernel_rfl) hi hz0 hz1 hz2 rfl (by omega) vo (2 * r) _ (by rfl) ((Hoa.out.alloc _).drew) ⟨wa.heap.size, 0, none⟩ 2 2 [.int .i64 (f : Int), .int .i64 (g : Int)] (by rfl) (by rfl) (cell_two_new _ _ _ _) HI2.out (by omega) hmax hby (by simp; exact hsx) (wa.heap.size + 1) (by simp) ?_; intro g2 cp w8 hown2 hgrow2 hat hlt2))
        all_goals (
          clear hat hlt2
          have hs7 := Hs7.out
          have hsa := Hsa.out
          rw [Hout.out] at hown2
          have hg2 : (wa.drew.alloc (.cells #[.int .i64 (f : Int), .int .i64 (g : Int)] 2)).grownBy w8 vo.ownBlock := hgrow2
          have hsz8 := hg2.size
          rw [hs7] at hsz8
          have HO8 := Lib.hid hown2
          have HS8 := Lib.hid (HS7.out.grown1 hg2 (fun e => by have := Hvo.out D e; omega))
          have HK8 := Lib.hid ((World.cell?_of_block (a := ⟨w3.heap.size, 0, none⟩) (hg2.block w3.heap.size (by rw [hs7]; omega) (fun e => by have := Hvo.out _ e.symm; omega))).trans K88.out)
          have HB8 := Lib.hid (HB7.out.grown hg2 (by rw [hs7]; omega) (fun b hb => by have := Hvo.out b hb; omega))
          have hd := delete_any (rowI (f :: rest)) D r (c + 1) (k + 1) D (D + 1) w8 (by rw [hlen]; exact HS8.out) (by rw [hlen]; omega) (by omega)
          rw [hlen, herase, show ((k + 1 : Nat) : Int) = (k : Int) + 1 from by omega] at hd
          have HDel := Lib.hid hd
          clear hd hown2 hgrow2 hg2 HS7 HB7 K88 HS8
          go_wp2_with fail
          refine (HDel.out).mono ?_
          rintro e w9 ⟨rfl, hsd, hod⟩
          have HS9 := Lib.hid (Sw.tail (n := m) (cap := c) (x := (f : Int)) (xs := rowI (rest.erase g)) hsd (by omega))
          have hg2D : w5.heap.size ≤ g2 := (HO8.out.lt g2 rfl).1
          have HO9 := Lib.hid (HO8.out.kept (only_grown2 hod) (.inr (fun e => by have e2 : some g2 = some D := e; cases e2; omega)))
          have HK9 := Lib.hid ((World.cell?_of_block (a := ⟨w3.heap.size, 0, none⟩) (hod.block w3.heap.size (by omega))).trans HK8.out)
          have HB9 := Lib.hid (Below.only HB8.out hod hDn)
          have hsz9 : w5.heap.size ≤ w9.heap.size := by rw [hod.size]; omega
          clear hsd hod HDel HO8 HK8 HB8
          go_wp2
          go_roundw
          case rel => exact ⟨r + 1, m, c, t, rest.erase g, out ++ [f, g], _, by omega, by omega, rfl, rfl, HPn, HS9, HO9, HK9, HB9, hsz9⟩
          case measure => simp [lenW])
end Go.Proofs.Ytfipcpbibmhjoab
