/- Contracts: texts of lists, in both texts; the library's Join laid at this program (the numbers of the laying are this seat's: lay1.sh). -/
import Derived.Test.YtcoehcoohppbjacDoorCc
import Derived.Test.YtcoehcoohppbjacDoorCl
import Derived.Shelf.Strings.OnBuilder
import Derived.Lib.ItoaLen
import Derived.Lib.Join
set_option linter.unusedVariables false
namespace Go.Proofs.YtcoehcoohppbjacDoor
open Go.RowKit Go.Shelf
def joinLays_ren : Go.Shelf.Ren := ⟨fun | 156 => 79 | 165 => 108 | 166 => 67 | 169 => 69 | 240 => 97 | 241 => 129 | 276 => 126 | 277 => 146 | n => n, fun | 31 => 43 | 9 => 9 | 3 => 3 | 4 => 4 | 0 => 0 | 20 => 20 | 72 => 81 | 76 => 85 | 70 => 78 | 37 => 79 | 75 => 60 | 127 => 115 | 164 => 142 | 5 => 5 | 80 => 88 | n => n, fun | n => n⟩
theorem joinLays : Go.Proofs.Lays.n156 Tryd.prog joinLays_ren := {
  mixed := by kernel_rfl
  f156 := Tryd.func79.trans (congrArg some (by kernel_rfl))
  f165 := Tryd.func108.trans (congrArg some (by kernel_rfl))
  f166 := Tryd.func67.trans (congrArg some (by kernel_rfl))
  f169 := Tryd.func69.trans (congrArg some (by kernel_rfl))
  f240 := Tryd.func97.trans (congrArg some (by kernel_rfl))
  f241 := Tryd.func129.trans (congrArg some (by kernel_rfl))
  f276 := Tryd.func126.trans (congrArg some (by kernel_rfl))
  f277 := Tryd.func146.trans (congrArg some (by kernel_rfl))
  t0 := Tryd.underlying0
  a0 := Tryd.isAgg0
  z0 := Tryd.sizeOf0
  v0 := Tryd.zeroValue0
  t3 := Tryd.underlying3
  a3 := Tryd.isAgg3
  z3 := Tryd.sizeOf3
  v3 := Tryd.zeroValue3
  t4 := Tryd.underlying4
  a4 := Tryd.isAgg4
  z4 := Tryd.sizeOf4
  v4 := Tryd.zeroValue4
  t9 := Tryd.underlying9
  a9 := Tryd.isAgg9
  z9 := Tryd.sizeOf9
  v9 := Tryd.zeroValue9
  t20 := Tryd.underlying20
  a20 := Tryd.isAgg20
  z20 := Tryd.sizeOf20
  v20 := Tryd.zeroValue20
  t31 := Tryd.underlying43
  a31 := Tryd.isAgg43
  z31 := Tryd.sizeOf43
  v31 := Tryd.zeroValue43
  t37 := Tryd.underlying79
  a37 := Tryd.isAgg79
  z37 := Tryd.sizeOf79
  v37 := Tryd.zeroValue79
  t70 := Tryd.underlying78
  a70 := Tryd.isAgg78
  z70 := Tryd.sizeOf78
  v70 := Tryd.zeroValue78
  t72 := Tryd.underlying81
  a72 := Tryd.isAgg81
  z72 := Tryd.sizeOf81
  v72 := Tryd.zeroValue81
  t75 := Tryd.underlying60
  a75 := Tryd.isAgg60
  z75 := Tryd.sizeOf60
  v75 := Tryd.zeroValue60
  t76 := Tryd.underlying85
  a76 := Tryd.isAgg85
  z76 := Tryd.sizeOf85
  v76 := Tryd.zeroValue85
  t127 := Tryd.underlying115
  a127 := Tryd.isAgg115
  z127 := Tryd.sizeOf115
  v127 := Tryd.zeroValue115
  t164 := Tryd.underlying142
  a164 := Tryd.isAgg142
  z164 := Tryd.sizeOf142
  v164 := Tryd.zeroValue142 }
theorem joinExtra : Go.Proofs.Builder.Extra Tryd.prog joinLays_ren := {
  sizeBuilder := by kernel_rfl
  liesBuilder := by kernel_rfl
  t5 := Tryd.underlying5
  a5 := Tryd.isAgg5
  z5 := Tryd.sizeOf5
  v5 := Tryd.zeroValue5
  infoByte := by kernel_rfl
  cellsByte := by kernel_rfl
  sizeByte := by kernel_rfl
  neB5 := by decide }
theorem join_any (bk o c : Nat) (xs : List ByteArray) (sep : ByteArray) (w : World) (hcells : ∀ (j : Nat) x, xs[j]? = some x → w.cell? ⟨bk, o + j, none⟩ = some (.string x)) (hbk : bk < w.heap.size) (hN : xs.length ≤ 140737488355328) (hcap : xs.length ≤ c) (hlen : (Lib.join (xs.map (·.data.toList)) sep.data.toList).length ≤ 140737488355328) :
    Calls Tryd.prog 79 #[.slice (some ⟨bk, o, none⟩) xs.length c, .string sep] w fun e w' => e = .returned (.string ⟨(Lib.join (xs.map (·.data.toList)) sep.data.toList).toArray⟩) ∧ Below w.heap.size w w' :=
  Any.strings_Join joinLays joinExtra bk o c xs sep w hcells hbk hN hcap hlen
theorem ret2s {s t : ByteArray} {a b : Bool} (h : s = t) (g : a = b) : Ending.returned (.tuple #[.string s, .bool a]) = .returned (.tuple #[.string t, .bool b]) := by rw [h, g]
def okL (fs : List Int) : Bool := (List.range fs.length).all fun k => okV (fs.getD k 0)
theorem okL_bad {fs : List Int} (k : Nat) (hk : k < fs.length) (h : okV (fs.getD k 0) = false) : okL fs = false := by
  cases e : okL fs
  · rfl
  · rw [List.all_eq_true.1 e k (List.mem_range.2 hk)] at h; cases h
theorem okL_good {fs : List Int} (h : ∀ k, k < fs.length → okV (fs.getD k 0) = true) : okL fs = true := List.all_eq_true.2 fun k hk => h k (List.mem_range.1 hk)
theorem okL_at {fs : List Int} (h : okL fs = true) (k : Nat) (hk : k < fs.length) : okV (fs.getD k 0) = true := List.all_eq_true.1 h k (List.mem_range.2 hk)
/-- the texts of the integers -/
def lsT (fs : List Int) : List (List UInt8) := fs.map Lib.itoa
def noneS : ByteArray := ⟨#[110, 111, 110, 101]⟩
def textS (fs : List Int) : ByteArray := if fs.length = 0 then noneS else ⟨(Lib.join (lsT fs) [44]).toArray⟩
def ok_ListText (fs : List Int) : Bool := okL fs && decide (fs.length ≤ 64)
def res_ListText (fs : List Int) : ByteArray := if ok_ListText fs = true then textS fs else ⟨#[]⟩
theorem lens_lsT (fs : List Int) (h : ∀ x ∈ fs, okV x = true) : Lib.lens (lsT fs) ≤ 21 * fs.length := by
  induction fs with
  | nil => simp [lsT, Lib.lens]
  | cons x fs ih =>
    have h1 := okV_bd (h x (List.mem_cons_self ..))
    have h2 := Lib.itoa_length_le x (by omega) (by omega)
    have h3 := ih (fun y hy => h y (List.mem_cons_of_mem _ hy))
    simp only [lsT, Lib.lens, List.map_cons, List.sum_cons, List.length_cons] at h3 ⊢
    omega
theorem okL_mem {fs : List Int} (h : okL fs = true) : ∀ x ∈ fs, okV x = true := by
  intro x hx
  obtain ⟨k, hk, rfl⟩ := List.getElem_of_mem hx
  have := okL_at h k hk
  rwa [getD_lt fs 0 k hk] at this
theorem join_small (fs : List Int) (h : ∀ x ∈ fs, okV x = true) : (Lib.join (lsT fs) [44]).length ≤ 22 * fs.length := by
  cases fs with
  | nil => simp [lsT, Lib.join, List.intercalate]
  | cons x r =>
    have h1 := lens_lsT (x :: r) h
    have h2 := Lib.join_length (Lib.itoa x) (lsT r) [44]
    have h3 : (lsT r).length = r.length := by simp [lsT]
    show (Lib.join (Lib.itoa x :: lsT r) [44]).length ≤ _
    rw [h2, h3]
    simp only [lsT, List.map_cons, List.length_cons, List.length_nil] at h1 ⊢
    omega
theorem join_snoc (fs : List Int) (k : Nat) (h1 : 1 ≤ k) (hk : k < fs.length) : Lib.join (lsT (fs.take (k + 1))) [44] = Lib.join (lsT (fs.take k)) [44] ++ ([44] ++ Lib.itoa (fs.getD k 0)) := by
  cases fs with
  | nil => simp at hk
  | cons x r =>
    obtain ⟨j, rfl⟩ : ∃ j, k = j + 1 := ⟨k - 1, by omega⟩
    have hj : j < r.length := by simpa using hk
    have e : (lsT r)[j]? = some (Lib.itoa (r.getD j 0)) := by rw [getD_lt r 0 j hj]; simp [lsT, hj]
    have e2 : ∀ m, lsT ((x :: r).take (m + 1)) = Lib.itoa x :: (lsT r).take m := fun m => by simp [lsT, List.map_take]
    rw [e2, e2, Lib.join_cons, Lib.join_cons, Lib.joinTail_take_succ _ _ _ _ e, List.append_assoc, List.append_assoc]
    simp [List.getD]
theorem append_bytes (a b : List UInt8) : (⟨a.toArray⟩ : ByteArray) ++ ⟨b.toArray⟩ = ⟨(a ++ b).toArray⟩ := by
  apply ByteArray.ext
  simp [ByteArray.data_append]
theorem size_bytes (a : List UInt8) : (⟨a.toArray⟩ : ByteArray).size = a.length := by simp [ByteArray.size]
set_option maxHeartbeats 1000000 in
theorem value_any (x : Int) (w : World) : Calls Tryd.prog 49 #[.int .i64 x] w fun e w' => e = .returned (.bool (okV x)) ∧ w = w' := by
  have E := Lib.hid (show okV x = (decide (-1000000000000000 ≤ x) && decide (x ≤ 1000000000000000)) from rfl)
  generalize okV x = R at *
  by_cases h1 : -1000000000000000 ≤ x
  · by_cases h2 : x ≤ 1000000000000000
    · have E2 := Lib.hid (show R = true by rw [E.out, decide_eq_true h1, decide_eq_true h2]; rfl)
      go_enter Tryd.func49, Tryd.ntmps49
      go_wp2
      all_goals (go_ret; exact ⟨ret_bool (by rw [E2.out] <;> simp_all), rfl⟩)
    · have E2 := Lib.hid (show R = false by rw [E.out, decide_eq_true h1, decide_eq_false h2]; rfl)
      have d2 : decide (x ≤ 1000000000000000) = false := decide_eq_false h2
      go_enter Tryd.func49, Tryd.ntmps49
      go_wp2
      all_goals (go_ret; exact ⟨ret_bool (by rw [E2.out] <;> simp_all), rfl⟩)
  · have E2 := Lib.hid (show R = false by rw [E.out, decide_eq_false h1]; rfl)
    have d1 : decide (-1000000000000000 ≤ x) = false := decide_eq_false h1
    go_enter Tryd.func49, Tryd.ntmps49
    go_wp2
    all_goals (go_ret; exact ⟨ret_bool (by rw [E2.out] <;> simp_all), rfl⟩)
def vtS (x : Int) : ByteArray := if okV x = true then decS x else ⟨#[]⟩
theorem vt_any (x : Int) (w : World) (ht : TabP w) :
    Calls Tryd.prog 53 #[.int .i64 x] w fun e w' => e = .returned (.tuple #[.string (vtS x), .bool (okV x)]) ∧ Below w.heap.size w w' := by
  have H1 := Lib.hid (fun z => value_any x z)
  cases h : okV x
  · have E := Lib.hid (show vtS x = ⟨#[]⟩ by unfold vtS; rw [h]; rfl)
    rw [h] at H1
    go_enter Tryd.func53, Tryd.ntmps53
    go_wp2_with (go_at_call 49; refine (H1.out _).mono ?_; rintro e w' ⟨rfl, rfl⟩)
    go_ret2
    exact ⟨ret2s E.out.symm rfl, Below.refl _ _⟩
  · have E := Lib.hid (show vtS x = decS x by unfold vtS; rw [if_pos h])
    have hb := okV_bd h
    have H2 := Lib.hid (dec_impl x (by omega) (by omega) w ht)
    rw [h] at H1
    generalize vtS x = r at *
    generalize decS x = s at *
    clear hb ht
    go_enter Tryd.func53, Tryd.ntmps53
    go_wp2_with (first | (go_at_call 49; refine (H1.out _).mono ?_; rintro e w' ⟨rfl, rfl⟩) | (go_at_call 13; refine (H2.out).mono ?_; rintro e w' ⟨rfl, hb⟩; have Hb := Lib.hid hb; clear hb))
    go_ret2
    exact ⟨ret2s E.out.symm rfl, Hb.out⟩
theorem run_enter2 {P : Program} {f : FuncId} {fn : Func} (hf : P.funcs[f]? = some fn) (hname : (fn.name == "runtime.NumGoroutine") = false) (hb : fn.body.isSome = true) (args : Array Value) (w : World) :
    (callFunc f args).run P w = .ok (.enter f args) w := by
  obtain ⟨c, hb⟩ := Option.isSome_iff_exists.1 hb
  have h1 : fn.name ≠ "runtime.NumGoroutine" := by simpa using hname
  simp [callFunc, hf, h1, hb]

/-! ### new decks -/
theorem take_next {α : Type} (xs : List α) (d : α) (k : Nat) (h : k < xs.length) : xs.take k ++ [xs.getD k d] = xs.take (k + 1) := by
  rw [List.take_succ_eq_append_getElem h, getD_lt xs d k h]
theorem made_str (n : Nat) : (madeCells (Value.string ⟨#[]⟩).cells (n * 1)).toList = List.replicate n (Value.string ⟨#[]⟩) := by
  rw [Nat.mul_one]; exact made1 _ n
set_option maxRecDepth 100000 in
set_option maxHeartbeats 4000000 in
theorem items_any (fs : List Int) (v : Value) (w : World) (hn : fs.length ≤ 1048576) (h : Sl (Value.int .i64) 0 w v fs) (ht : TabP w) :
    Calls Tryd.prog 52 #[v, .int .i64 64, .func (.func 53) #[] #[]] w fun e w' => e = .returned (.tuple #[.string (res_ListText fs), .bool (ok_ListText fs)]) ∧ Below w.heap.size w w' := by
  have Hl64 := Lib.hid (show 64 < fs.length → ok_ListText fs = false from fun h => by unfold ok_ListText; rw [decide_eq_false (by omega), Bool.and_false])
  have Hnil := Lib.hid (show fs.length = 0 → ok_ListText fs = true ∧ res_ListText fs = noneS from fun h => by
    have e1 : ok_ListText fs = true := by unfold ok_ListText okL; rw [h]; rfl
    exact ⟨e1, by unfold res_ListText textS; rw [if_pos e1, if_pos h]⟩)
  have Hbad := Lib.hid (show ok_ListText fs = false → res_ListText fs = ⟨#[]⟩ from fun h => by unfold res_ListText; rw [h]; rfl)
  have Hno := Lib.hid (show ∀ k, k < fs.length → okV (fs.getD k 0) = false → ok_ListText fs = false from fun k hk h => by unfold ok_ListText; rw [okL_bad k hk h, Bool.false_and])
  have Hyes := Lib.hid (show fs.length ≤ 64 → 1 ≤ fs.length → (∀ k, k < fs.length → okV (fs.getD k 0) = true) → ok_ListText fs = true ∧ res_ListText fs = ⟨(Lib.join (lsT fs) [44]).toArray⟩ ∧ (Lib.join (lsT fs) [44]).length ≤ 1500 from fun h1 h2 h3 => by
    have e0 := okL_good h3
    have e1 : ok_ListText fs = true := by unfold ok_ListText; rw [e0, decide_eq_true h1]; rfl
    have := join_small fs (okL_mem e0)
    exact ⟨e1, by unfold res_ListText textS; rw [if_pos e1, if_neg (by omega)], by omega⟩)
  obtain ⟨p, cap, rfl, hf⟩ := h
  obtain ⟨i0, hi, hz0, hz1, hz2⟩ := info_parts (show (Tryd.prog.info? 9).map (fun i => (i.zero, i.size, i.bytes)) = some (some (Value.string ⟨#[]⟩), 1, 16) by kernel_rfl)
  have Hf := Lib.hid hf
  clear hf
  have Ht := Lib.hid ht
  clear ht
  have hent : ∀ args w, (callFunc 53 args).run Tryd.prog w = .ok (.enter 53 args) w   := run_enter2 Tryd.func53 (by kernel_rfl) (by kernel_rfl)
  have Htx : Hid ((fs.map decS).length = fs.length) := Lib.hid (by simp)
  have Hta : Hid (∀ k, k < fs.length → (fs.map decS).getD k ⟨#[]⟩ = decS (fs.getD k 0)) := Lib.hid (fun k hk => by simp [List.getD, hk])
  have Hlst : Hid ((fs.map decS).map (fun s => s.data.toList) = lsT fs) := Lib.hid (by simp [lsT, decS, Function.comp_def])
  have Htn := Lib.hid (fun k (hk : k < (fs.map decS).length) => take_next (fs.map decS) (⟨#[]⟩ : ByteArray) k hk)
  generalize res_ListText fs = R at *
  generalize ok_ListText fs = B at *
  generalize hlen : fs.length = n at *
  clear hlen
  by_cases h64 : 64 < n
  · have hB := Hl64.out h64
    have hR := Lib.hid (Hbad.out hB)
    subst hB
    clear Hl64 Hnil Hbad Hno Hyes
    have d1 : decide ((64 : Int) < (n : Int)) = true := decide_eq_true (by omega)
    go_enter Tryd.func52, Tryd.ntmps52
    go_wp2
    go_ret2
    exact ⟨ret2s hR.out.symm rfl, Below.refl _ _⟩
  have d1 : decide ((64 : Int) < (n : Int)) = false := decide_eq_false (by omega)
  by_cases h0 : n = 0
  · obtain ⟨hB, hR0⟩ := Hnil.out h0
    have hR := Lib.hid hR0
    subst hB
    subst h0
    clear Hl64 Hnil Hbad Hno Hyes hR0
    go_enter Tryd.func52, Tryd.ntmps52
    go_wp2
    go_ret2
    exact ⟨ret2s hR.out.symm rfl, Below.refl _ _⟩
  have d2 : ((n : Int) == 0) = false := by simp; omega
  have d3 : ((n : Int) = 0) = False := eq_false (by omega)
  clear Hl64 Hnil
  go_enter Tryd.func52, Tryd.ntmps52
  go_wp2_with (at_make; refine wpList_make_full _ rfl _ _ 43 rfl w.heap.size 9 i0 (Value.string ⟨#[]⟩) 1 (by kernel_rfl) hi hz0 hz1 .i64 .i64 n n n rfl rfl rfl rfl (by rw [hz2]; omega) (by unfold maxLen; omega) (Nat.le_refl _) ?_; intro w1 hown hgrow)
  have hbel : Below w.heap.size w w1 := (Below.refl _ w).grown hgrow (Nat.le_refl _) (by simp)
  have hs0 : Sw Value.string (⟨#[]⟩ : ByteArray) w1 (.slice (some ⟨w.heap.size, 0, none⟩) n n) (mixed [] (List.replicate n (⟨#[]⟩ : ByteArray))) w.heap.size (w.heap.size + 1) := by
    refine ⟨some ⟨w.heap.size, 0, none⟩, n, by simp [mixed], fun h0 => ⟨by simp [mixed], w.heap.size, 0, rfl, Nat.le_refl _, Nat.lt_succ_self _, (hown.lt _ rfl).2, fun i hi => ⟨?_, ?_⟩⟩⟩
    · rw [Nat.zero_add, hown.cellAt i (by simpa [mixed] using hi), made_str]
      have hin : i < n := by simpa [mixed] using hi
      simp [mixed, List.getD, hin]
    · rw [Nat.zero_add]; exact hown.frozenAt i
  have Hown := Lib.hid hs0
  have hsz1 : w.heap.size < w1.heap.size := (hown.lt _ rfl).2
  clear hown hs0 hgrow
  go_loopw [25] (fun i wr => ∃ k : Nat, k ≤ n ∧ i = .int .i64 (k : Int) ∧ Hid (∀ j, j < k → okV (fs.getD j 0) = true) ∧ Hid (Sw Value.string (⟨#[]⟩ : ByteArray) wr (.slice (some ⟨w.heap.size, 0, none⟩) n n) (mixed ((fs.map decS).take k) (List.replicate n (⟨#[]⟩ : ByteArray))) w.heap.size (w.heap.size + 1)) ∧ Hid (Below w.heap.size w wr)) (fun i _ => n - (intOf i).toNat)
  case atStart => exact ⟨0, Nat.zero_le _, rfl, Lib.hid (fun j hj => by omega), by simpa using Hown, Lib.hid hbel⟩
  case round =>
    obtain ⟨k, hk, rfl, Hdn, hs, hb⟩ := hrel
    have hbz := hb.out.size
    by_cases hlt : k < n
    · obtain ⟨hcap, b, off, rfl, hbs, hc⟩ := Hf.out (by omega)
      have c1 : wr.cell? ⟨b, off + k, none⟩ = some (Value.int .i64 (fs.getD k 0)) := by rw [hb.out.cell hbs]; exact hc k hlt
      clear hc
      have hcall := vt_any (fs.getD k 0) wr (Ht.out.stays hb.out)
      cases hr : okV (fs.getD k 0)
      · have hB := Hno.out k hlt hr
        have hR := Lib.hid (Hbad.out hB)
        rw [hr] at hcall
        have Hcall := Lib.hid hcall
        subst hB
        clear Hbad Hno Hyes hcall hr Hdn
        generalize vtS (fs.getD k 0) = sv at *
        generalize fs.getD k 0 = x at *
        go_wp2_with (refine (Hcall.out).mono ?_; rintro e w2 ⟨rfl, hb2⟩; have Hb2 := Lib.hid (below_step hb.out hb2 (Nat.le_refl _)); clear hb2)
        go_ret2
        exact ⟨ret2s hR.out.symm rfl, Hb2.out⟩
      · have Hdn2 : Hid (∀ j, j < k + 1 → okV (fs.getD j 0) = true) := Lib.hid (fun j hj => by
          by_cases e : j = k
          · subst e; exact hr
          · exact Hdn.out j (by omega))
        rw [hr, show vtS (fs.getD k 0) = decS (fs.getD k 0) by unfold vtS; rw [if_pos hr]] at hcall
        have Hcall := Lib.hid hcall
        have hml : ((fs.map decS).take k).length = k := by rw [List.length_take, Htx.out]; omega
        have Htk := Lib.hid (Htn.out k (by rw [Htx.out]; exact hlt))
        rw [Hta.out k hlt] at Htk
        clear Hbad Hno Hyes hcall hr Hdn
        generalize decS (fs.getD k 0) = sv at *
        generalize fs.getD k 0 = x at *
        go_wp2_with fail
        refine (Hcall.out).mono ?_
        rintro e w2 ⟨rfl, hb2⟩
        have Hb2 := Lib.hid (below_step hb.out hb2 (Nat.le_refl _))
        have hx := hs.out.later hb2
        have hz2 := hb2.size
        obtain ⟨b1, off1, e1, q1, q2, q3, q4⟩ := hx.open' k (by simp [mixed]; omega)
        cases e1
        rw [Nat.zero_add] at q3 q4
        have Hst := hx.store k (by simp [mixed]; omega) sv
        rw [mixed_set _ _ _ _ hml (by simp; omega), Htk.out] at Hst
        simp only [Nat.zero_add] at Hst
        have HS := Lib.hid Hst
        have Hb3 : Hid (Below w.heap.size w (w2.setCell ⟨w.heap.size, k, none⟩ (.string sv))) := Lib.hid (Hb2.out.setCell (Nat.le_refl _) _)
        generalize List.getD _ k _ = old at q3
        clear hb2 hx Hst Hb2 q1 Htk hs hb
        go_wp2
        go_roundw
        case rel => exact ⟨k + 1, by omega, by go_num, Hdn2, HS, Hb3⟩
        case measure => simp [intOf]; omega
    · obtain rfl : k = n := by omega
      obtain ⟨hB, hR, hjl⟩ := Hyes.out (by omega) (by omega) Hdn.out
      subst hB
      have HR := Lib.hid hR
      have e9 : mixed ((fs.map decS).take k) (List.replicate k (⟨#[]⟩ : ByteArray)) = fs.map decS := by
        rw [List.take_of_length_le (by rw [Htx.out]; exact Nat.le_refl _)]
        exact mixed_done _ _ (by rw [Htx.out, List.length_replicate])
      have hs9 := hs.out
      rw [e9] at hs9
      have hbk : w.heap.size < wr.heap.size := by
        obtain ⟨_, _, _, ⟨_, _, h9⟩, _⟩ := hs9.open' 0 (by rw [Htx.out]; omega)
        omega
      have hj := join_any w.heap.size 0 k (fs.map decS) ⟨#[44]⟩ wr (fun j x hx => by
          have hjl := (List.getElem?_eq_some_iff.1 hx).1
          obtain ⟨b1, off1, e1, q1, q2, q3, q4⟩ := hs9.open' j hjl
          cases e1
          rw [q3, getD_lt _ _ _ hjl]
          have := (List.getElem?_eq_some_iff.1 hx).2
          rw [this]) hbk (by rw [Htx.out]; omega) (by rw [Htx.out]; exact Nat.le_refl _) (by rw [Hlst.out]; exact Nat.le_trans hjl (by omega))
      rw [Htx.out, Hlst.out] at hj
      have Hj := Lib.hid hj
      clear Hbad Hno Hyes hj hs9 hs e9 hR hjl Hdn
      go_wp2_with (go_at_call 79; (with_reducible refine (Hj.out).mono ?_); rintro e w2 ⟨rfl, hb2⟩; have Hb2 := Lib.hid (below_step hb.out hb2 (Nat.le_refl _)); clear hb2)
      go_ret2
      exact ⟨ret2s HR.out.symm rfl, Hb2.out⟩
theorem impl_ListText (fs : List Int) (v : Value) (w : World) (hn : fs.length ≤ 1048576) (h : Sl (Value.int .i64) 0 w v fs) (ht : TabP w) :
    Calls Tryd.prog 18 #[v] w fun e w' => e = .returned (.tuple #[.string (res_ListText fs), .bool (ok_ListText fs)]) ∧ Below w.heap.size w w' := by
  have H := Lib.hid (items_any fs v w hn h ht)
  obtain ⟨p, cap, rfl, -⟩ := h
  clear ht
  generalize res_ListText fs = R at *
  generalize ok_ListText fs = B at *
  go_enter Tryd.func18, Tryd.ntmps18
  go_wp2_with (refine (H.out).mono ?_; rintro e w2 ⟨rfl, hb⟩; have Hb := Lib.hid hb; clear hb)
  go_ret2
  exact ⟨rfl, Hb.out⟩
theorem inV_any (x : Int) (w : World) : Calls Tryd.prog 82 #[.int .i64 x, .int .i64 (-1000000000000000), .int .i64 1000000000000000] w fun e w' => e = .returned (.bool (okV x)) ∧ w = w' := by
  have E := Lib.hid (show okV x = (decide (-1000000000000000 ≤ x) && decide (x ≤ 1000000000000000)) from rfl)
  generalize okV x = R at *
  by_cases h1 : -1000000000000000 ≤ x
  · by_cases h2 : x ≤ 1000000000000000
    · have E2 := Lib.hid (show R = true by rw [E.out, decide_eq_true h1, decide_eq_true h2]; rfl)
      go_enter Tryd.func82, Tryd.ntmps82
      go_wp2
      all_goals (go_ret; exact ⟨ret_bool (by rw [E2.out] <;> simp_all), rfl⟩)
    · have E2 := Lib.hid (show R = false by rw [E.out, decide_eq_true h1, decide_eq_false h2]; rfl)
      have d2 : decide (x ≤ 1000000000000000) = false := decide_eq_false h2
      go_enter Tryd.func82, Tryd.ntmps82
      go_wp2
      all_goals (go_ret; exact ⟨ret_bool (by rw [E2.out] <;> simp_all), rfl⟩)
  · have E2 := Lib.hid (show R = false by rw [E.out, decide_eq_false h1]; rfl)
    have d1 : decide (-1000000000000000 ≤ x) = false := decide_eq_false h1
    go_enter Tryd.func82, Tryd.ntmps82
    go_wp2
    all_goals (go_ret; exact ⟨ret_bool (by rw [E2.out] <;> simp_all), rfl⟩)
set_option maxHeartbeats 2000000 in
theorem list_spec (fs : List Int) (v : Value) (w : World) (hn : fs.length ≤ 1048576) (h : Sl (Value.int .i64) 0 w v fs) :
    Calls Tryd.prog 50 #[v] w fun e w' => e = .returned (.bool (ok_ListText fs)) ∧ w = w' := by
  have Hno := Lib.hid (show ∀ k, k < fs.length → okV (fs.getD k 0) = false → ok_ListText fs = false from fun k hk h => by unfold ok_ListText; rw [okL_bad k hk h, Bool.false_and])
  have Hyes := Lib.hid (show (∀ k, k < fs.length → okV (fs.getD k 0) = true) → ok_ListText fs = decide ((fs.length : Int) ≤ 64) from fun h3 => by
    unfold ok_ListText; rw [okL_good h3, Bool.true_and]; congr 1; exact propext ⟨fun h => by omega, fun h => by omega⟩)
  obtain ⟨p, cap, rfl, hf⟩ := h
  have Hf := Lib.hid hf
  clear hf
  generalize ok_ListText fs = R at *
  generalize hlen : fs.length = n at *
  clear hlen
  go_enter Tryd.func50, Tryd.ntmps50
  go_wp2
  go_loopw [3] (fun i wr => ∃ k : Nat, k ≤ n ∧ i = .int .i64 (k : Int) ∧ Hid (∀ j, j < k → okV (fs.getD j 0) = true) ∧ Hid (w = wr)) (fun i _ => n - (intOf i).toNat)
  case atStart => exact ⟨0, Nat.zero_le _, rfl, Lib.hid (fun j hj => by omega), Lib.hid rfl⟩
  case round =>
    obtain ⟨k, hk, rfl, Hdn, hw⟩ := hrel
    obtain rfl := hw.out
    clear hw
    by_cases hlt : k < n
    · obtain ⟨hcap, b, off, rfl, hbs, hc⟩ := Hf.out (by omega)
      have c1 := hc k hlt
      clear hc
      have Hcall := Lib.hid (inV_any (fs.getD k 0))
      cases hr : okV (fs.getD k 0)
      · have hB := Lib.hid (Hno.out k hlt hr)
        rw [hr] at Hcall
        clear Hno Hyes hr Hdn
        generalize fs.getD k 0 = x at *
        go_wp2_with (refine (Hcall.out _).mono ?_; rintro e w2 ⟨rfl, rfl⟩)
        go_ret
        exact ⟨ret_bool hB.out.symm, rfl⟩
      · have Hdn2 : Hid (∀ j, j < k + 1 → okV (fs.getD j 0) = true) := Lib.hid (fun j hj => by
          by_cases e : j = k
          · subst e; exact hr
          · exact Hdn.out j (by omega))
        rw [hr] at Hcall
        clear Hno Hyes hr Hdn
        generalize fs.getD k 0 = x at *
        go_wp2_with (refine (Hcall.out _).mono ?_; rintro e w2 ⟨rfl, rfl⟩)
        go_roundw
        case rel => exact ⟨k + 1, by omega, by go_num, Hdn2, by first | exact Lib.hid rfl | exact Lib.hid trivial⟩
        case measure => simp [intOf]; omega
    · obtain rfl : k = n := by omega
      have E := Lib.hid (Hyes.out Hdn.out)
      clear Hno Hyes Hdn
      go_wp2
      go_ret
      exact ⟨ret_bool E.out.symm, rfl⟩
set_option maxRecDepth 100000 in
set_option maxHeartbeats 4000000 in
theorem text_spec (fs : List Int) (v : Value) (w : World) (hn : fs.length ≤ 64) (hok : ∀ x ∈ fs, okV x = true) (h : Sl (Value.int .i64) 0 w v fs) :
    Calls Tryd.prog 51 #[v] w fun e w' => e = .returned (.string (textS fs)) ∧ Below w.heap.size w w' := by
  have Hnil := Lib.hid (show fs.length = 0 → textS fs = noneS from fun h => by unfold textS; rw [if_pos h])
  have Hcons := Lib.hid (show fs.length ≠ 0 → textS fs = ⟨(Lib.join (lsT (fs.take fs.length)) [44]).toArray⟩ from fun h => by unfold textS; rw [if_neg h, List.take_length])
  have Hsn := Lib.hid (join_snoc fs)
  have Hsm := Lib.hid (fun k => show (Lib.join (lsT (fs.take k)) [44]).length ≤ 1500 by
    have := join_small (fs.take k) (fun x hx => hok x (List.mem_of_mem_take hx))
    have h2 : (fs.take k).length ≤ fs.length := by rw [List.length_take]; omega
    omega)
  have Hel := Lib.hid (fun k (hk : k < fs.length) => show -1000000000000000 ≤ fs.getD k 0 ∧ fs.getD k 0 ≤ 1000000000000000 from okV_bd (by rw [getD_lt fs 0 k hk]; exact hok _ (List.getElem_mem hk)))
  have Hone := Lib.hid (show 1 ≤ fs.length → decS (fs.getD 0 0) = ⟨(Lib.join (lsT (fs.take 1)) [44]).toArray⟩ from fun h => by
    cases fs with
    | nil => simp at h
    | cons x r => simp [lsT, decS, Lib.join_one, List.getD])
  have Hlen := Lib.hid (fun k (hk : k < fs.length) => show (decS (fs.getD k 0)).size ≤ 21 by
    have := Hel.out k hk
    unfold decS
    rw [size_bytes]
    exact Lib.itoa_length_le _ (by omega) (by omega))
  obtain ⟨p, cap, rfl, hf⟩ := h
  have Hf := Lib.hid hf
  clear hf hok
  generalize textS fs = R at *
  generalize hlen : fs.length = n at *
  clear hlen
  by_cases h0 : n = 0
  · have hR := Lib.hid (Hnil.out h0)
    subst h0
    clear Hnil Hcons
    go_enter Tryd.func51, Tryd.ntmps51
    go_wp2
    go_ret
    exact ⟨ret_str hR.out.symm, Below.refl _ _⟩
  have d2 : ((n : Int) == 0) = false := by simp; omega
  have d3 : ((n : Int) = 0) = False := eq_false (by omega)
  have HR := Lib.hid (Hcons.out h0)
  clear Hnil Hcons
  obtain ⟨hcap, b, off, rfl, hbs, hc⟩ := Hf.out (by omega)
  have c0 := hc 0 (by omega)
  have Hc := Lib.hid hc
  have hel0 := Hel.out 0 (by omega)
  have Hd0 := Lib.hid (dec_spec (fs.getD 0 0) (by omega) (by omega) w)
  rw [Hone.out (by omega)] at Hd0
  rw [Nat.add_zero] at c0
  clear hc hel0 Hone
  generalize fs.getD 0 0 = x0 at *
  go_enter Tryd.func51, Tryd.ntmps51
  go_wp2_with (go_at_call 45; (with_reducible refine (Hd0.out).mono ?_); rintro e w1 ⟨rfl, hb⟩; have Hb := Lib.hid hb; clear hb)
  clear Hd0 c0
  go_loopw [3, 4] (fun o i wr => ∃ k : Nat, 1 ≤ k ∧ k ≤ n ∧ i = .int .i64 (k : Int) ∧ o = .string ⟨(Lib.join (lsT (fs.take k)) [44]).toArray⟩ ∧ Hid (Below w.heap.size w wr)) (fun _ i _ => n - (intOf i).toNat)
  case atStart => exact ⟨1, Nat.le_refl _, by omega, rfl, rfl, Hb⟩
  case round =>
    obtain ⟨k, hk1, hk, rfl, rfl, hb⟩ := hrel
    by_cases hlt : k < n
    · have c1 : wr.cell? ⟨b, off + k, none⟩ = some (Value.int .i64 (fs.getD k 0)) := by rw [hb.out.cell hbs]; exact Hc.out k hlt
      have hel := Hel.out k hlt
      have Hd := Lib.hid (dec_spec (fs.getD k 0) (by omega) (by omega) wr)
      have hS := Hsn.out k hk1 hlt
      have HS := Lib.hid (show (⟨(Lib.join (lsT (fs.take k)) [44]).toArray⟩ : ByteArray) ++ (⟨#[44]⟩ ++ decS (fs.getD k 0)) = ⟨(Lib.join (lsT (fs.take (k + 1))) [44]).toArray⟩ by
        unfold decS
        rw [hS, ← append_bytes, ← append_bytes])
      have hz1 : (⟨(Lib.join (lsT (fs.take k)) [44]).toArray⟩ : ByteArray).size ≤ 1500 := by rw [size_bytes]; exact Hsm.out k
      have hz2 := Hlen.out k hlt
      clear hS hel
      generalize (⟨(Lib.join (lsT (fs.take k)) [44]).toArray⟩ : ByteArray) = s at *
      generalize decS (fs.getD k 0) = t at *
      generalize fs.getD k 0 = x at *
      go_wp2_with (go_at_call 45; (with_reducible refine (Hd.out).mono ?_); rintro e w2 ⟨rfl, hb2⟩; have Hb2 := Lib.hid (below_step hb.out hb2 (Nat.le_refl _)); clear hb2)
      go_roundw
      case rel => exact ⟨k + 1, by omega, by omega, by go_num, by rw [← HS.out], Hb2⟩
      case measure => simp [intOf]; omega
    · obtain rfl : k = n := by omega
      go_wp2
      go_ret
      exact ⟨ret_str HR.out.symm, hb.out⟩
theorem spec_ListText (fs : List Int) (v : Value) (w : World) (hn : fs.length ≤ 1048576) (h : Sl (Value.int .i64) 0 w v fs) :
    Calls Tryd.prog 16 #[v] w fun e w' => e = .returned (.tuple #[.string (res_ListText fs), .bool (ok_ListText fs)]) ∧ Below w.heap.size w w' := by
  have H1 := Lib.hid (list_spec fs v w hn h)
  cases hb : ok_ListText fs
  · have E := Lib.hid (show res_ListText fs = ⟨#[]⟩ by unfold res_ListText; rw [hb]; rfl)
    rw [hb] at H1
    obtain ⟨p, cap, rfl, -⟩ := h
    go_enter Tryd.func16, Tryd.ntmps16
    go_wp2_with (go_at_call 50; (with_reducible refine (H1.out).mono ?_); rintro e w2 ⟨rfl, rfl⟩)
    go_ret2
    exact ⟨ret2s E.out.symm rfl, Below.refl _ _⟩
  · have E := Lib.hid (show res_ListText fs = textS fs by unfold res_ListText; rw [if_pos hb])
    have hb2 := hb
    unfold ok_ListText at hb2
    rw [Bool.and_eq_true] at hb2
    have H2 := Lib.hid (text_spec fs v w (of_decide_eq_true hb2.2) (okL_mem hb2.1) h)
    rw [hb] at H1
    obtain ⟨p, cap, rfl, -⟩ := h
    generalize res_ListText fs = R at *
    generalize textS fs = T at *
    clear hb hb2
    go_enter Tryd.func16, Tryd.ntmps16
    go_wp2_with (first | (go_at_call 50; (with_reducible refine (H1.out).mono ?_); rintro e w2 ⟨rfl, rfl⟩) | (go_at_call 51; (with_reducible refine (H2.out).mono ?_); rintro e w2 ⟨rfl, hb2⟩; have Hb2 := Lib.hid hb2; clear hb2))
    go_ret2
    exact ⟨ret2s E.out.symm rfl, Hb2.out⟩
end Go.Proofs.YtcoehcoohppbjacDoor
