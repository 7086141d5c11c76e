/- Contracts: texts of numbers, in both texts; the library's Join laid at this program (the numbers of the laying are this seat's: lay1.sh). -/
import Derived.Test.YtcoehcoohppbjacCg
import Derived.Test.YtcoehcoohppbjacKb
import Derived.Shelf.Strings.OnBuilder
import Derived.Lib.Join
set_option linter.unusedVariables false
namespace Go.Proofs.Ytcoehcoohppbjac
open Go.RowKit Go.Shelf Fl
def joinLays_ren : Go.Shelf.Ren := ⟨fun | 156 => 39 | 165 => 54 | 166 => 36 | 169 => 37 | 240 => 52 | 241 => 65 | 276 => 64 | 277 => 69 | n => n, fun | 31 => 79 | 9 => 9 | 3 => 3 | 4 => 4 | 0 => 0 | 20 => 20 | 72 => 72 | 76 => 75 | 70 => 70 | 37 => 61 | 75 => 74 | 127 => 93 | 164 => 103 | 5 => 5 | 80 => 77 | n => n, fun | n => n⟩
theorem joinLays : Go.Proofs.Lays.n156 Try.prog joinLays_ren := {
  mixed := by kernel_rfl
  f156 := Try.func39.trans (congrArg some (by kernel_rfl))
  f165 := Try.func54.trans (congrArg some (by kernel_rfl))
  f166 := Try.func36.trans (congrArg some (by kernel_rfl))
  f169 := Try.func37.trans (congrArg some (by kernel_rfl))
  f240 := Try.func52.trans (congrArg some (by kernel_rfl))
  f241 := Try.func65.trans (congrArg some (by kernel_rfl))
  f276 := Try.func64.trans (congrArg some (by kernel_rfl))
  f277 := Try.func69.trans (congrArg some (by kernel_rfl))
  t0 := Try.underlying0
  a0 := Try.isAgg0
  z0 := Try.sizeOf0
  v0 := Try.zeroValue0
  t3 := Try.underlying3
  a3 := Try.isAgg3
  z3 := Try.sizeOf3
  v3 := Try.zeroValue3
  t4 := Try.underlying4
  a4 := Try.isAgg4
  z4 := Try.sizeOf4
  v4 := Try.zeroValue4
  t9 := Try.underlying9
  a9 := Try.isAgg9
  z9 := Try.sizeOf9
  v9 := Try.zeroValue9
  t20 := Try.underlying20
  a20 := Try.isAgg20
  z20 := Try.sizeOf20
  v20 := Try.zeroValue20
  t31 := Try.underlying79
  a31 := Try.isAgg79
  z31 := Try.sizeOf79
  v31 := Try.zeroValue79
  t37 := Try.underlying61
  a37 := Try.isAgg61
  z37 := Try.sizeOf61
  v37 := Try.zeroValue61
  t70 := Try.underlying70
  a70 := Try.isAgg70
  z70 := Try.sizeOf70
  v70 := Try.zeroValue70
  t72 := Try.underlying72
  a72 := Try.isAgg72
  z72 := Try.sizeOf72
  v72 := Try.zeroValue72
  t75 := Try.underlying74
  a75 := Try.isAgg74
  z75 := Try.sizeOf74
  v75 := Try.zeroValue74
  t76 := Try.underlying75
  a76 := Try.isAgg75
  z76 := Try.sizeOf75
  v76 := Try.zeroValue75
  t127 := Try.underlying93
  a127 := Try.isAgg93
  z127 := Try.sizeOf93
  v127 := Try.zeroValue93
  t164 := Try.underlying103
  a164 := Try.isAgg103
  z164 := Try.sizeOf103
  v164 := Try.zeroValue103 }
theorem joinExtra : Go.Proofs.Builder.Extra Try.prog joinLays_ren := {
  sizeBuilder := by kernel_rfl
  liesBuilder := by kernel_rfl
  t5 := Try.underlying5
  a5 := Try.isAgg5
  z5 := Try.sizeOf5
  v5 := Try.zeroValue5
  infoByte := by kernel_rfl
  cellsByte := by kernel_rfl
  sizeByte := by kernel_rfl
  neB5 := by decide }
theorem join_any (bk o c : Nat) (xs : List ByteArray) (sep : ByteArray) (w : World) (hcells : ∀ (j : Nat) x, xs[j]? = some x → w.cell? ⟨bk, o + j, none⟩ = some (.string x)) (hbk : bk < w.heap.size) (hN : xs.length ≤ 140737488355328) (hcap : xs.length ≤ c) (hlen : (Lib.join (xs.map (·.data.toList)) sep.data.toList).length ≤ 140737488355328) :
    Calls Try.prog 39 #[.slice (some ⟨bk, o, none⟩) xs.length c, .string sep] w fun e w' => e = .returned (.string ⟨(Lib.join (xs.map (·.data.toList)) sep.data.toList).toArray⟩) ∧ Below w.heap.size w w' :=
  Any.strings_Join joinLays joinExtra bk o c xs sep w hcells hbk hN hcap hlen
/-- the digits of the numbers -/
def hxT (fs : List Nat) : List (List UInt8) := fs.map fun u => hexL (cn .f32 u) 8
def noneS : ByteArray := ⟨#[110, 111, 110, 101]⟩
def textF (fs : List Nat) : ByteArray := if fs.length = 0 then noneS else ⟨(Lib.join (hxT fs) [44]).toArray⟩
def ok_NumbersText (fs : List Nat) : Bool := decide ((fs.length : Int) ≤ 256)
def res_NumbersText (fs : List Nat) : ByteArray := if ok_NumbersText fs = true then textF fs else ⟨#[]⟩
theorem lens_hxT (fs : List Nat) : Lib.lens (hxT fs) = 8 * fs.length := by
  induction fs with
  | nil => simp [hxT, Lib.lens]
  | cons x fs ih =>
    simp only [hxT, Lib.lens, List.map_cons, List.sum_cons, List.length_cons, hexL_len] at ih ⊢
    omega
theorem join_small (fs : List Nat) : (Lib.join (hxT fs) [44]).length ≤ 9 * fs.length := by
  cases fs with
  | nil => simp [hxT, Lib.join, List.intercalate]
  | cons x r =>
    have h1 := lens_hxT (x :: r)
    have h2 := Lib.join_length (hexL (cn .f32 x) 8) (hxT r) [44]
    have h3 : (hxT r).length = r.length := by simp [hxT]
    show (Lib.join (hexL (cn .f32 x) 8 :: hxT r) [44]).length ≤ _
    rw [h2, h3]
    simp only [hxT, List.map_cons, List.length_cons, List.length_nil] at h1 ⊢
    omega
theorem join_snoc (fs : List Nat) (k : Nat) (h1 : 1 ≤ k) (hk : k < fs.length) : Lib.join (hxT (fs.take (k + 1))) [44] = Lib.join (hxT (fs.take k)) [44] ++ ([44] ++ hexL (cn .f32 (fs.getD k 0)) 8) := by
  cases fs with
  | nil => simp at hk
  | cons x r =>
    obtain ⟨j, rfl⟩ : ∃ j, k = j + 1 := ⟨k - 1, by omega⟩
    have hj : j < r.length := by simpa using hk
    have e : (hxT r)[j]? = some (hexL (cn .f32 (r.getD j 0)) 8) := by rw [getD_lt r 0 j hj]; simp [hxT, hj]
    have e2 : ∀ m, hxT ((x :: r).take (m + 1)) = hexL (cn .f32 x) 8 :: (hxT r).take m := fun m => by simp [hxT, List.map_take]
    rw [e2, e2, Lib.join_cons, Lib.join_cons, Lib.joinTail_take_succ _ _ _ _ e, List.append_assoc, List.append_assoc]
    simp [List.getD]
theorem append_bytes (a b : List UInt8) : (⟨a.toArray⟩ : ByteArray) ++ ⟨b.toArray⟩ = ⟨(a ++ b).toArray⟩ := by
  apply ByteArray.ext
  simp [ByteArray.data_append]
theorem size_bytes (a : List UInt8) : (⟨a.toArray⟩ : ByteArray).size = a.length := by simp [ByteArray.size]
theorem run_enter2 {P : Program} {f : FuncId} {fn : Func} (hf : P.funcs[f]? = some fn) (hname : (fn.name == "runtime.NumGoroutine") = false) (hb : fn.body.isSome = true) (args : Array Value) (w : World) :
    (callFunc f args).run P w = .ok (.enter f args) w := by
  obtain ⟨c, hb⟩ := Option.isSome_iff_exists.1 hb
  have h1 : fn.name ≠ "runtime.NumGoroutine" := by simpa using hname
  simp [callFunc, hf, h1, hb]
theorem take_next {α : Type} (xs : List α) (d : α) (k : Nat) (h : k < xs.length) : xs.take k ++ [xs.getD k d] = xs.take (k + 1) := by
  rw [List.take_succ_eq_append_getElem h, getD_lt xs d k h]
theorem made_str (n : Nat) : (madeCells (Value.string ⟨#[]⟩).cells (n * 1)).toList = List.replicate n (Value.string ⟨#[]⟩) := by
  rw [Nat.mul_one]; exact made1 _ n
def hxS (u : Nat) : ByteArray := hexS (cn .f32 u)
set_option maxRecDepth 100000 in
set_option maxHeartbeats 4000000 in
theorem items_any (fs : List Nat) (v : Value) (w : World) (hn : fs.length ≤ 1048576) (hw : ∀ x ∈ fs, x < 4294967296) (h : Sl (Value.float .f32) 0 w v fs) :
    Calls Try.prog 22 #[v, .int .i64 256, .func (.func 23) #[] #[]] w fun e w' => e = .returned (.tuple #[.string (res_NumbersText fs), .bool (ok_NumbersText fs)]) ∧ Below w.heap.size w w' := by
  have Hl64 := Lib.hid (show 256 < fs.length → ok_NumbersText fs = false from fun h => decide_eq_false (by omega))
  have Hnil := Lib.hid (show fs.length = 0 → ok_NumbersText fs = true ∧ res_NumbersText fs = noneS from fun h => by
    have e1 : ok_NumbersText fs = true := decide_eq_true (by omega)
    exact ⟨e1, by unfold res_NumbersText textF; rw [if_pos e1, if_pos h]⟩)
  have Hbad := Lib.hid (show ok_NumbersText fs = false → res_NumbersText fs = ⟨#[]⟩ from fun h => by unfold res_NumbersText; rw [h]; rfl)
  have Hyes := Lib.hid (show fs.length ≤ 256 → 1 ≤ fs.length → ok_NumbersText fs = true ∧ res_NumbersText fs = ⟨(Lib.join (hxT fs) [44]).toArray⟩ ∧ (Lib.join (hxT fs) [44]).length ≤ 2500 from fun h1 h2 => by
    have e1 : ok_NumbersText fs = true := decide_eq_true (by omega)
    have := join_small fs
    exact ⟨e1, by unfold res_NumbersText textF; rw [if_pos e1, if_neg (by omega)], by omega⟩)
  have Hwf := Lib.hid (fun k (hk : k < fs.length) => show fs.getD k 0 < 4294967296 by rw [getD_lt fs 0 k hk]; exact hw _ (List.getElem_mem hk))
  clear hw
  obtain ⟨p, cap, rfl, hf⟩ := h
  obtain ⟨i0, hi, hz0, hz1, hz2⟩ := info_parts (show (Try.prog.info? 9).map (fun i => (i.zero, i.size, i.bytes)) = some (some (Value.string ⟨#[]⟩), 1, 16) by kernel_rfl)
  have Hf := Lib.hid hf
  clear hf
  have hent : ∀ args w, (callFunc 23 args).run Try.prog w = .ok (.enter 23 args) w   := run_enter2 Try.func23 (by kernel_rfl) (by kernel_rfl)
  have Htx : Hid ((fs.map hxS).length = fs.length) := Lib.hid (by simp)
  have Hta : Hid (∀ k, k < fs.length → (fs.map hxS).getD k ⟨#[]⟩ = hxS (fs.getD k 0)) := Lib.hid (fun k hk => by simp [List.getD, hk])
  have Hlst : Hid ((fs.map hxS).map (fun s => s.data.toList) = hxT fs) := Lib.hid (by simp [hxT, hxS, hexS, Function.comp_def])
  have Htn := Lib.hid (fun k (hk : k < (fs.map hxS).length) => take_next (fs.map hxS) (⟨#[]⟩ : ByteArray) k hk)
  generalize res_NumbersText fs = R at *
  generalize ok_NumbersText fs = B at *
  generalize hlen : fs.length = n at *
  clear hlen
  by_cases h64 : 256 < n
  · have hB := Hl64.out h64
    have hR := Lib.hid (Hbad.out hB)
    subst hB
    clear Hl64 Hnil Hbad Hyes
    have d1 : decide ((256 : Int) < (n : Int)) = true := decide_eq_true (by omega)
    go_enter Try.func22, Try.ntmps22
    go_wp2
    go_ret2
    exact ⟨ret2t hR.out.symm rfl, Below.refl _ _⟩
  have d1 : decide ((256 : Int) < (n : Int)) = false := decide_eq_false (by omega)
  by_cases h0 : n = 0
  · obtain ⟨hB, hR0⟩ := Hnil.out h0
    have hR := Lib.hid hR0
    subst hB
    subst h0
    clear Hl64 Hnil Hbad Hyes hR0
    go_enter Try.func22, Try.ntmps22
    go_wp2
    go_ret2
    exact ⟨ret2t hR.out.symm rfl, Below.refl _ _⟩
  have d2 : ((n : Int) == 0) = false := by simp; omega
  have d3 : ((n : Int) = 0) = False := eq_false (by omega)
  clear Hl64 Hnil
  go_enter Try.func22, Try.ntmps22
  go_wp2_with (at_make; refine wpList_make_full _ rfl _ _ 79 rfl w.heap.size 9 i0 (Value.string ⟨#[]⟩) 1 (by kernel_rfl) hi hz0 hz1 .i64 .i64 n n n rfl rfl rfl rfl (by rw [hz2]; omega) (by unfold maxLen; omega) (Nat.le_refl _) ?_; intro w1 hown hgrow)
  have hbel : Below w.heap.size w w1 := (Below.refl _ w).grown hgrow (Nat.le_refl _) (by simp)
  have hs0 : Sw Value.string (⟨#[]⟩ : ByteArray) w1 (.slice (some ⟨w.heap.size, 0, none⟩) n n) (mixed [] (List.replicate n (⟨#[]⟩ : ByteArray))) w.heap.size (w.heap.size + 1) := by
    refine ⟨some ⟨w.heap.size, 0, none⟩, n, by simp [mixed], fun h0 => ⟨by simp [mixed], w.heap.size, 0, rfl, Nat.le_refl _, Nat.lt_succ_self _, (hown.lt _ rfl).2, fun i hi => ⟨?_, ?_⟩⟩⟩
    · rw [Nat.zero_add, hown.cellAt i (by simpa [mixed] using hi), made_str]
      have hin : i < n := by simpa [mixed] using hi
      simp [mixed, List.getD, hin]
    · rw [Nat.zero_add]; exact hown.frozenAt i
  have Hown := Lib.hid hs0
  have hsz1 : w.heap.size < w1.heap.size := (hown.lt _ rfl).2
  clear hown hs0 hgrow
  go_loopw [25] (fun i wr => ∃ k : Nat, k ≤ n ∧ i = .int .i64 (k : Int) ∧ Hid (Sw Value.string (⟨#[]⟩ : ByteArray) wr (.slice (some ⟨w.heap.size, 0, none⟩) n n) (mixed ((fs.map hxS).take k) (List.replicate n (⟨#[]⟩ : ByteArray))) w.heap.size (w.heap.size + 1)) ∧ Hid (Below w.heap.size w wr)) (fun i _ => n - (intOf i).toNat)
  case atStart => exact ⟨0, Nat.zero_le _, rfl, by simpa using Hown, Lib.hid hbel⟩
  case round =>
    obtain ⟨k, hk, rfl, hs, hb⟩ := hrel
    have hbz := hb.out.size
    by_cases hlt : k < n
    · obtain ⟨hcap, b, off, rfl, hbs, hc⟩ := Hf.out (by omega)
      have c1 : wr.cell? ⟨b, off + k, none⟩ = some (Value.float .f32 (fs.getD k 0)) := by rw [hb.out.cell hbs]; exact hc k hlt
      clear hc
      have Hcall := Lib.hid (bitsText_any (fs.getD k 0) (Hwf.out k hlt) wr)
      rw [show hexS (cn .f32 (fs.getD k 0)) = hxS (fs.getD k 0) from rfl] at Hcall
      have hml : ((fs.map hxS).take k).length = k := by rw [List.length_take, Htx.out]; omega
      have Htk := Lib.hid (Htn.out k (by rw [Htx.out]; exact hlt))
      rw [Hta.out k hlt] at Htk
      clear Hbad Hyes
      generalize hxS (fs.getD k 0) = sv at *
      generalize fs.getD k 0 = x at *
      go_wp2_with fail
      refine (Hcall.out).mono ?_
      rintro e w2 ⟨rfl, hb2⟩
      have Hb2 := Lib.hid (below_step hb.out hb2 (Nat.le_refl _))
      have hx := hs.out.later hb2
      have hz2 := hb2.size
      obtain ⟨b1, off1, e1, q1, q2, q3, q4⟩ := hx.open' k (by simp [mixed]; omega)
      cases e1
      rw [Nat.zero_add] at q3 q4
      have Hst := hx.store k (by simp [mixed]; omega) sv
      rw [mixed_set _ _ _ _ hml (by simp; omega), Htk.out] at Hst
      simp only [Nat.zero_add] at Hst
      have HS := Lib.hid Hst
      have Hb3 : Hid (Below w.heap.size w (w2.setCell ⟨w.heap.size, k, none⟩ (.string sv))) := Lib.hid (Hb2.out.setCell (Nat.le_refl _) _)
      generalize List.getD _ k _ = old at q3
      clear hb2 hx Hst Hb2 q1 Htk hs hb
      go_wp2
      go_roundw
      case rel => exact ⟨k + 1, by omega, by go_num, HS, Hb3⟩
      case measure => simp [intOf]; omega
    · obtain rfl : k = n := by omega
      obtain ⟨hB, hR, hjl⟩ := Hyes.out (by omega) (by omega)
      subst hB
      have HR := Lib.hid hR
      have e9 : mixed ((fs.map hxS).take k) (List.replicate k (⟨#[]⟩ : ByteArray)) = fs.map hxS := by
        rw [List.take_of_length_le (by rw [Htx.out]; exact Nat.le_refl _)]
        exact mixed_done _ _ (by rw [Htx.out, List.length_replicate])
      have hs9 := hs.out
      rw [e9] at hs9
      have hbk : w.heap.size < wr.heap.size := by
        obtain ⟨_, _, _, ⟨_, _, h9⟩, _⟩ := hs9.open' 0 (by rw [Htx.out]; omega)
        omega
      have hj := join_any w.heap.size 0 k (fs.map hxS) ⟨#[44]⟩ wr (fun j x hx => by
          have hjl := (List.getElem?_eq_some_iff.1 hx).1
          obtain ⟨b1, off1, e1, q1, q2, q3, q4⟩ := hs9.open' j hjl
          cases e1
          rw [q3, getD_lt _ _ _ hjl]
          have := (List.getElem?_eq_some_iff.1 hx).2
          rw [this]) hbk (by rw [Htx.out]; omega) (by rw [Htx.out]; exact Nat.le_refl _) (by rw [Hlst.out]; exact Nat.le_trans hjl (by omega))
      rw [Htx.out, Hlst.out] at hj
      have Hj := Lib.hid hj
      clear Hbad Hyes hj hs9 hs e9 hR hjl
      go_wp2_with (go_at_call 39; (with_reducible refine (Hj.out).mono ?_); rintro e w2 ⟨rfl, hb2⟩; have Hb2 := Lib.hid (below_step hb.out hb2 (Nat.le_refl _)); clear hb2)
      go_ret2
      exact ⟨ret2t HR.out.symm rfl, Hb2.out⟩
theorem impl_NumbersText (fs : List Nat) (v : Value) (w : World) (hn : fs.length ≤ 1048576) (hw : ∀ x ∈ fs, x < 4294967296) (h : Sl (Value.float .f32) 0 w v fs) :
    Calls Try.prog 8 #[v] w fun e w' => e = .returned (.tuple #[.string (res_NumbersText fs), .bool (ok_NumbersText fs)]) ∧ Below w.heap.size w w' := by
  have H := Lib.hid (items_any fs v w hn hw h)
  obtain ⟨p, cap, rfl, -⟩ := h
  generalize res_NumbersText fs = R at *
  generalize ok_NumbersText fs = B at *
  go_enter Try.func8, Try.ntmps8
  go_wp2_with (refine (H.out).mono ?_; rintro e w2 ⟨rfl, hb⟩; have Hb := Lib.hid hb; clear hb)
  go_ret2
  exact ⟨rfl, Hb.out⟩
theorem few_spec (fs : List Nat) (v : Value) (w : World) (hn : fs.length ≤ 1048576) (h : Sl (Value.float .f32) 0 w v fs) :
    Calls Try.prog 20 #[v] w fun e w' => e = .returned (.bool (ok_NumbersText fs)) ∧ w = w' := by
  obtain ⟨p, cap, rfl, -⟩ := h
  unfold ok_NumbersText
  generalize fs.length = n at *
  go_enter Try.func20, Try.ntmps20
  go_wp2
  go_ret
  exact ⟨rfl, rfl⟩
set_option maxRecDepth 100000 in
set_option maxHeartbeats 4000000 in
theorem text_spec (fs : List Nat) (v : Value) (w : World) (hn : fs.length ≤ 256) (hw : ∀ x ∈ fs, x < 4294967296) (h : Sl (Value.float .f32) 0 w v fs) :
    Calls Try.prog 21 #[v] w fun e w' => e = .returned (.string (textF fs)) ∧ Below w.heap.size w w' := by
  have Hnil := Lib.hid (show fs.length = 0 → textF fs = noneS from fun h => by unfold textF; rw [if_pos h])
  have Hcons := Lib.hid (show fs.length ≠ 0 → textF fs = ⟨(Lib.join (hxT (fs.take fs.length)) [44]).toArray⟩ from fun h => by unfold textF; rw [if_neg h, List.take_length])
  have Hsn := Lib.hid (join_snoc fs)
  have Hsm := Lib.hid (fun k => show (Lib.join (hxT (fs.take k)) [44]).length ≤ 2500 by
    have := join_small (fs.take k)
    have h2 : (fs.take k).length ≤ fs.length := by rw [List.length_take]; omega
    omega)
  have Hwf := Lib.hid (fun k (hk : k < fs.length) => show fs.getD k 0 < 4294967296 by rw [getD_lt fs 0 k hk]; exact hw _ (List.getElem_mem hk))
  have Hone := Lib.hid (show 1 ≤ fs.length → hxS (fs.getD 0 0) = ⟨(Lib.join (hxT (fs.take 1)) [44]).toArray⟩ from fun h => by
    cases fs with
    | nil => simp at h
    | cons x r => simp [hxT, hxS, hexS, Lib.join_one, List.getD])
  have Hlen := Lib.hid (fun k => show (hxS (fs.getD k 0)).size ≤ 21 by
    unfold hxS hexS
    rw [size_bytes, hexL_len]
    omega)
  obtain ⟨p, cap, rfl, hf⟩ := h
  have Hf := Lib.hid hf
  clear hf hw
  generalize textF fs = R at *
  generalize hlen : fs.length = n at *
  clear hlen
  by_cases h0 : n = 0
  · have hR := Lib.hid (Hnil.out h0)
    subst h0
    clear Hnil Hcons
    go_enter Try.func21, Try.ntmps21
    go_wp2
    go_ret
    exact ⟨ret_str7 hR.out.symm, Below.refl _ _⟩
  have d2 : ((n : Int) == 0) = false := by simp; omega
  have d3 : ((n : Int) = 0) = False := eq_false (by omega)
  have HR := Lib.hid (Hcons.out h0)
  clear Hnil Hcons
  obtain ⟨hcap, b, off, rfl, hbs, hc⟩ := Hf.out (by omega)
  have c0 := hc 0 (by omega)
  have Hc := Lib.hid hc
  have Hd0 := Lib.hid (hex_spec (fs.getD 0 0) (Hwf.out 0 (by omega)) w)
  rw [show hexS (cn .f32 (fs.getD 0 0)) = hxS (fs.getD 0 0) from rfl, Hone.out (by omega)] at Hd0
  rw [Nat.add_zero] at c0
  clear hc Hone
  generalize fs.getD 0 0 = x0 at *
  go_enter Try.func21, Try.ntmps21
  go_wp2_with (go_at_call 38; (with_reducible refine (Hd0.out).mono ?_); rintro e w1 ⟨rfl, hb⟩; have Hb := Lib.hid hb; clear hb)
  clear Hd0 c0
  go_loopw [3, 4] (fun o i wr => ∃ k : Nat, 1 ≤ k ∧ k ≤ n ∧ i = .int .i64 (k : Int) ∧ o = .string ⟨(Lib.join (hxT (fs.take k)) [44]).toArray⟩ ∧ Hid (Below w.heap.size w wr)) (fun _ i _ => n - (intOf i).toNat)
  case atStart => exact ⟨1, Nat.le_refl _, by omega, rfl, rfl, Hb⟩
  case round =>
    obtain ⟨k, hk1, hk, rfl, rfl, hb⟩ := hrel
    by_cases hlt : k < n
    · have c1 : wr.cell? ⟨b, off + k, none⟩ = some (Value.float .f32 (fs.getD k 0)) := by rw [hb.out.cell hbs]; exact Hc.out k hlt
      have Hd := Lib.hid (show Calls _ _ _ _ _ from hex_spec (fs.getD k 0) (Hwf.out k hlt) wr)
      rw [show hexS (cn .f32 (fs.getD k 0)) = hxS (fs.getD k 0) from rfl] at Hd
      have hS := Hsn.out k hk1 hlt
      have HS := Lib.hid (show (⟨(Lib.join (hxT (fs.take k)) [44]).toArray⟩ : ByteArray) ++ (⟨#[44]⟩ ++ hxS (fs.getD k 0)) = ⟨(Lib.join (hxT (fs.take (k + 1))) [44]).toArray⟩ by
        unfold hxS hexS
        rw [hS, ← append_bytes, ← append_bytes])
      have hz1 : (⟨(Lib.join (hxT (fs.take k)) [44]).toArray⟩ : ByteArray).size ≤ 2500 := by rw [size_bytes]; exact Hsm.out k
      have hz2 := Hlen.out k
      clear hS
      generalize (⟨(Lib.join (hxT (fs.take k)) [44]).toArray⟩ : ByteArray) = s at *
      generalize hxS (fs.getD k 0) = t at *
      generalize fs.getD k 0 = x at *
      go_wp2_with (go_at_call 38; (with_reducible refine (Hd.out).mono ?_); rintro e w2 ⟨rfl, hb2⟩; have Hb2 := Lib.hid (below_step hb.out hb2 (Nat.le_refl _)); clear hb2)
      go_roundw
      case rel => exact ⟨k + 1, by omega, by omega, by go_num, by rw [← HS.out], Hb2⟩
      case measure => simp [intOf]; omega
    · obtain rfl : k = n := by omega
      go_wp2
      go_ret
      exact ⟨ret_str7 HR.out.symm, hb.out⟩
theorem spec_NumbersText (fs : List Nat) (v : Value) (w : World) (hn : fs.length ≤ 1048576) (hw : ∀ x ∈ fs, x < 4294967296) (h : Sl (Value.float .f32) 0 w v fs) :
    Calls Try.prog 6 #[v] w fun e w' => e = .returned (.tuple #[.string (res_NumbersText fs), .bool (ok_NumbersText fs)]) ∧ Below w.heap.size w w' := by
  have H1 := Lib.hid (few_spec fs v w hn h)
  cases hb : ok_NumbersText fs
  · have E := Lib.hid (show res_NumbersText fs = ⟨#[]⟩ by unfold res_NumbersText; rw [hb]; rfl)
    rw [hb] at H1
    obtain ⟨p, cap, rfl, -⟩ := h
    go_enter Try.func6, Try.ntmps6
    go_wp2_with (go_at_call 20; (with_reducible refine (H1.out).mono ?_); rintro e w2 ⟨rfl, rfl⟩)
    go_ret2
    exact ⟨ret2t E.out.symm rfl, Below.refl _ _⟩
  · have E := Lib.hid (show res_NumbersText fs = textF fs by unfold res_NumbersText; rw [if_pos hb])
    have hb2 : (fs.length : Int) ≤ 256 := of_decide_eq_true hb
    have H2 := Lib.hid (text_spec fs v w (by omega) hw h)
    rw [hb] at H1
    obtain ⟨p, cap, rfl, -⟩ := h
    generalize res_NumbersText fs = R at *
    generalize textF fs = T at *
    clear hb hb2
    go_enter Try.func6, Try.ntmps6
    go_wp2_with (first | (go_at_call 20; (with_reducible refine (H1.out).mono ?_); rintro e w2 ⟨rfl, rfl⟩) | (go_at_call 21; (with_reducible refine (H2.out).mono ?_); rintro e w2 ⟨rfl, hb2⟩; have Hb2 := Lib.hid hb2; clear hb2))
    go_ret2
    exact ⟨ret2t E.out.symm rfl, Hb2.out⟩
end Go.Proofs.Ytcoehcoohppbjac
