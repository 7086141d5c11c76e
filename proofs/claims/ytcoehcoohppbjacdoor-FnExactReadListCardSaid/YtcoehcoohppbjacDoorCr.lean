/- Contracts: the model's texts cut at commas. -/
import Derived.Test.YtcoehcoohppbjacDoorCp
import Derived.Test.YtcoehcoohppbjacDoorCq
import Derived.Maps.AppendAt
import Derived.Deep.AppendLies
set_option linter.unusedVariables false
namespace Go.Proofs.YtcoehcoohppbjacDoor
open Go.RowKit Go.Shelf
theorem map_data_inj : ∀ {a b : List ByteArray}, a.map (fun x => x.data.toList) = b.map (fun x => x.data.toList) → a = b
  | [], [], _ => rfl
  | [], _ :: _, h => by simp at h
  | _ :: _, [], h => by simp at h
  | x :: a, y :: b, h => by
    simp only [List.map_cons, List.cons.injEq] at h
    rw [map_data_inj h.2, ByteArray.ext (Array.toList_inj.1 h.1)]
theorem parts_cut (s : ByteArray) : (parts s).map (fun x => x.data.toList) = cutL s.data.toList := by
  have h := Lib.splitB_data commaB 0 (Lib.countB s commaB) s
  have e : Lib.countB s commaB = Lib.count s.data.toList [44] := rfl
  unfold parts
  rw [h, e]
  exact split_cut _
theorem extract_list (s : ByteArray) (f k : Nat) (h : f ≤ k) (hk : k ≤ s.size) : (s.extract f k).data.toList = (s.data.toList.drop f).take (k - f) := by
  rw [Lib.extract_data]
theorem no_mark (s : ByteArray) (f k : Nat) (h : f ≤ k) (hk : k ≤ s.size) (hn : ∀ j (hj : j < s.size), f ≤ j → j < k → s[j].toNat ≠ 44) : ∀ b ∈ (s.data.toList.drop f).take (k - f), b ≠ 44 := by
  intro b hb e
  obtain ⟨i, hi, rfl⟩ := List.getElem_of_mem hb
  have hi2 : i < k - f := by have := hi; rw [List.length_take] at this; omega
  have hsz : s.data.toList.length = s.size := by simp
  refine hn (f + i) (by omega) (by omega) (by omega) ?_
  rw [List.getElem_take, List.getElem_drop] at e
  have : s[f + i]'(by omega) = s.data.toList[f + i]'(by omega) := rfl
  rw [this, e]; rfl
theorem step_hit (s : ByteArray) (f k : Nat) (Q : List ByteArray) (h : f ≤ k) (hk : k < s.size) (hn : ∀ j (hj : j < s.size), f ≤ j → j < k → s[j].toNat ≠ 44) (h44 : s[k].toNat = 44) (hq : Q.map (fun x => x.data.toList) ++ cutL (s.data.toList.drop f) = cutL s.data.toList) :
    (Q ++ [s.extract f k]).map (fun x => x.data.toList) ++ cutL (s.data.toList.drop (k + 1)) = cutL s.data.toList := by
  have hsz : s.data.toList.length = s.size := by simp
  have e : s.data.toList.drop f = (s.data.toList.drop f).take (k - f) ++ 44 :: s.data.toList.drop (k + 1) := by
    have e1 : (s.data.toList.drop f).drop (k - f) = 44 :: s.data.toList.drop (k + 1) := by
      rw [List.drop_drop, show f + (k - f) = k by omega, List.drop_eq_getElem_cons (by omega)]
      congr 1
      exact UInt8.toNat_inj.1 h44
    rw [← e1, List.take_append_drop]
  rw [e, cut_hit _ _ (no_mark s f k h (by omega) hn)] at hq
  rw [List.map_append, List.map_singleton, extract_list s f k h (by omega), List.append_assoc]
  exact hq
theorem step_end (s : ByteArray) (f : Nat) (Q : List ByteArray) (h : f ≤ s.size) (hn : ∀ j (hj : j < s.size), f ≤ j → j < s.size → s[j].toNat ≠ 44) (hq : Q.map (fun x => x.data.toList) ++ cutL (s.data.toList.drop f) = cutL s.data.toList) :
    Q ++ [s.extract f s.size] = parts s := by
  apply map_data_inj
  have hsz : s.data.toList.length = s.size := by simp
  have e : (s.data.toList.drop f).take (s.size - f) = s.data.toList.drop f := List.take_of_length_le (by rw [List.length_drop]; omega)
  have hm := no_mark s f s.size h (Nat.le_refl _) hn
  rw [e] at hm
  rw [parts_cut, ← hq, cut_miss _ hm, List.map_append, List.map_singleton, extract_list s f s.size h (Nat.le_refl _), e]
theorem one_str (x : ByteArray) : ∀ u ∈ [Value.string x], u.oneCell' = true := fun u hu => by
  rw [List.mem_singleton] at hu; subst hu; rfl
theorem str_zero (w : World) (base : Nat) (h : base ≤ w.heap.size) : (w.alloc (.cells #[] 9)).ownsRow base 9 1 (.slice (some ⟨w.heap.size, 0, none⟩) 0 0) 0 (([] : List ByteArray).map Value.string) :=
  ⟨rfl, .inr ⟨w.heap.size, 0, #[], rfl, h, heap_alloc_new w _, Nat.le_refl _, Nat.zero_le _, rfl, rfl⟩⟩
set_option maxRecDepth 100000 in
set_option maxHeartbeats 1000000 in
theorem cut_spec (s : ByteArray) (hs : s.size ≤ 1048576) (w : World) :
    Calls Tryd.prog 85 #[.string s, .int .u8 44] w fun e w' => ∃ b c, e = .returned (.slice (some ⟨b, 0, none⟩) (parts s).length c) ∧ w'.ownsRow w.heap.size 9 1 (.slice (some ⟨b, 0, none⟩) (parts s).length c) (parts s).length ((parts s).map Value.string) ∧ Below w.heap.size w w' := by
  obtain ⟨i0, hi, hz0, hz1, hz2⟩ := info_parts (show (Tryd.prog.info? 9).map (fun i => (i.zero, i.size, i.bytes)) = some (some (Value.string ⟨#[]⟩), 1, 16) by kernel_rfl)
  have Hhit := Lib.hid (step_hit s)
  have Hend := Lib.hid (step_end s)
  go_enter Tryd.func85, Tryd.ntmps85
  go_wp2
  go_loopw [5, 6, 7] (fun v fv iv wr => ∃ (k f b c n : Nat) (Q : List ByteArray), k ≤ s.size + 1 ∧ n ≤ k ∧ v = .slice (some ⟨b, 0, none⟩) n c ∧ fv = .int .i64 (f : Int) ∧ iv = .int .i64 (k : Int) ∧ Hid (Q.length = n) ∧ Hid (wr.ownsRow w.heap.size 9 1 (.slice (some ⟨b, 0, none⟩) n c) n (Q.map Value.string)) ∧ ((k ≤ s.size ∧ f ≤ k ∧ Hid (Q.map (fun x => x.data.toList) ++ cutL (s.data.toList.drop f) = cutL s.data.toList) ∧ Hid (∀ j (hj : j < s.size), f ≤ j → j < k → s[j].toNat ≠ 44)) ∨ (k = s.size + 1 ∧ Hid (Q = parts s))) ∧ Hid (Below w.heap.size w wr)) (fun _ _ iv _ => s.size + 1 - (intOf iv).toNat)
  case atStart => exact ⟨0, 0, w.heap.size, 0, 0, [], Nat.zero_le _, Nat.le_refl _, rfl, rfl, rfl, Lib.hid rfl, Lib.hid (str_zero w _ (Nat.le_refl _)), .inl ⟨Nat.zero_le _, Nat.le_refl _, Lib.hid rfl, Lib.hid (fun j hj h1 h2 => absurd h2 (by omega))⟩, Lib.hid ((Below.refl _ w).alloc (Nat.le_refl _) _)⟩
  case round =>
    obtain ⟨k, f, b, c, n, Q, hk, hnk, rfl, rfl, rfl, HQ, Hown, hst, Hb⟩ := hrel
    have hbz := Hb.out.size
    rcases hst with ⟨hks, hfk, Hq, Hnm⟩ | ⟨rfl, Hq⟩
    · have HX : Hid (∀ {W : World} {b2 c2 : Nat} {x : ByteArray}, W.ownsRow w.heap.size 9 1 (.slice (some ⟨b2, 0, none⟩) (n + 1) c2) (n + 1) (Q.map Value.string ++ [.string x]) → W.ownsRow w.heap.size 9 1 (.slice (some ⟨b2, 0, none⟩) (n + 1) c2) (n + 1) ((Q ++ [x]).map Value.string)) := Lib.hid (fun h => by rw [List.map_append]; exact h)
      have HQ2 : Hid (∀ x : ByteArray, (Q ++ [x]).length = n + 1) := Lib.hid (fun x => by rw [List.length_append, HQ.out]; rfl)
      by_cases hlt : k < s.size
      · have d1 : ((k : Int) == (s.size : Int)) = false := by simp; omega
        have d2 : ((k : Int) = (s.size : Int)) = False := eq_false (by omega)
        by_cases h44 : s[k].toNat = 44
        · have d3 : ((s[k].toNat : Int) == 44) = true := by simp; omega
          have HH := Lib.hid (Hhit.out f k Q hfk hlt Hnm.out h44 Hq.out)
          clear Hhit Hend Hq Hnm HQ
          go_wp2_with (at_builtin; refine wpList_append_lies _ rfl _ _ 43 rfl w.heap.size 9 i0 (Value.string ⟨#[]⟩) 1 16 (by kernel_rfl) hi hz0 hz1 hz2 rfl (by decide) _ _ _ rfl (Hown.out.alloc _) ⟨wr.heap.size, 0, none⟩ 1 1 [.string (s.extract f k)] rfl rfl (cell_one_new _ _ _) (one_str _) (by omega) (by unfold maxLen; omega) (by omega) (by simp; omega) (wr.heap.size + 1) (by simp) ?_; intro b2 c2 w2 hown2 hgrow2 hat2 hlt2; have HO2 := Lib.hid (HX.out hown2); have HB2 := Lib.hid ((Hb.out.alloc hbz _).grown hgrow2 (by simp; omega) (fun b hb => (Hown.out.lt b hb).1)); clear hown2 hgrow2 hat2 hlt2)
          go_roundw
          case rel => exact ⟨k + 1, k + 1, b2, c2, n + 1, Q ++ [s.extract f k], by omega, by omega, rfl, by go_num, by go_num, Lib.hid (HQ2.out _), HO2, .inl ⟨by omega, Nat.le_refl _, HH, Lib.hid (fun j hj h1 h2 => absurd h2 (by omega))⟩, HB2⟩
          case measure => first | (simp [intOf]; done) | (simp [intOf]; omega)
        · have d3 : ((s[k].toNat : Int) == 44) = false := by simp; omega
          have HN2 : Hid (∀ j (hj : j < s.size), f ≤ j → j < k + 1 → s[j].toNat ≠ 44) := Lib.hid (fun j hj h1 h2 => by
            by_cases e : j = k
            · subst e; exact h44
            · exact Hnm.out j hj h1 (by omega))
          clear Hhit Hend Hnm HX HQ2
          go_wp2
          go_roundw
          case rel => exact ⟨k + 1, f, b, c, n, Q, by omega, by omega, rfl, rfl, by go_num, HQ, Hown, .inl ⟨by omega, by omega, Hq, HN2⟩, Hb⟩
          case measure => first | (simp [intOf]; done) | (simp [intOf]; omega)
      · obtain rfl : k = s.size := by omega
        have HH := Lib.hid (Hend.out f Q hfk Hnm.out Hq.out)
        clear Hhit Hend Hq Hnm HQ
        go_wp2_with (at_builtin; refine wpList_append_lies _ rfl _ _ 43 rfl w.heap.size 9 i0 (Value.string ⟨#[]⟩) 1 16 (by kernel_rfl) hi hz0 hz1 hz2 rfl (by decide) _ _ _ rfl (Hown.out.alloc _) ⟨wr.heap.size, 0, none⟩ 1 1 [.string (s.extract f s.size)] rfl rfl (cell_one_new _ _ _) (one_str _) (by omega) (by unfold maxLen; omega) (by omega) (by simp; omega) (wr.heap.size + 1) (by simp) ?_; intro b2 c2 w2 hown2 hgrow2 hat2 hlt2; have HO2 := Lib.hid (HX.out hown2); have HB2 := Lib.hid ((Hb.out.alloc hbz _).grown hgrow2 (by simp; omega) (fun b hb => (Hown.out.lt b hb).1)); clear hown2 hgrow2 hat2 hlt2)
        go_roundw
        case rel => exact ⟨s.size + 1, s.size + 1, b2, c2, n + 1, Q ++ [s.extract f s.size], by omega, by omega, rfl, by go_num, by go_num, Lib.hid (HQ2.out _), HO2, .inr ⟨rfl, HH⟩, HB2⟩
        case measure => first | (simp [intOf]; done) | (simp [intOf]; omega)
    · have hq := Hq.out
      subst hq
      have hn2 := HQ.out
      subst hn2
      clear Hhit Hend Hq HQ
      go_wp2
      go_ret
      exact ⟨_, _, rfl, Hown.out, Hb.out⟩
end Go.Proofs.YtcoehcoohppbjacDoor
