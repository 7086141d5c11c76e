/- Contracts: hands of tricks: AreHands, in both texts. -/
import Derived.Test.YtodmaomngpnboaaYt
import Derived.Test.YtodmaomngpnboaaIh
import Derived.Laws.IdiomCopy
set_option linter.unusedVariables false
namespace Go.Proofs.Ytodmaomngpnboaa
open Go.RowKit

set_option maxHeartbeats 1000000 in
theorem cards_spec (fs : List Int) (v : Value) (w : World) (hn : fs.length ≤ 1048576) (h : Sl (Value.int .i64) 0 w v fs) :
    Calls Try.prog 94 #[v] w fun e w' => e = .returned (.bool (cardsB fs)) ∧ Drawn w w' := by
  have Hs := Lib.hid h
  obtain ⟨p, cap, rfl, hf⟩ := h
  have Hf := Lib.hid hf
  have Hbad : Hid (∀ k, k < fs.length → handAt fs k = false → cardsB fs = false) := Lib.hid (fun k hk e => cardsB_bad k hk e)
  have Hgd : Hid ((∀ k, k < fs.length → handAt fs k = true) → cardsB fs = true) := Lib.hid (fun hk => cardsB_of hk)
  clear hf
  generalize cardsB fs = B at *
  generalize hlen : fs.length = n at *
  have Hlen := Lib.hid hlen
  clear hlen
  go_enter Try.func94, Try.ntmps94
  go_wp2
  go_loopw [3] (fun i wr => ∃ k : Nat, k ≤ n ∧ i = .int .i64 k ∧ Hid (∀ j, j < k → handAt fs j = true) ∧ Drawn w wr) (fun i _ => n - (intOf i).toNat)
  case atStart => exact ⟨0, Nat.zero_le _, rfl, fun j hj => absurd hj (by omega), Drawn.refl _⟩
  case round =>
    obtain ⟨k, hk, rfl, hp, hd⟩ := hrel
    have Hd := Lib.hid hd
    clear hd
    by_cases hlt : k < n
    · obtain ⟨hcap, b, off, rfl, hbs, hc⟩ := Hf.out (by omega)
      have Hs' := Lib.hid ((Hs.out.take k (by rw [Hlen.out]; omega) cap (by omega)).drawn Hd.out)
      have c1 : wr.cell? ⟨b, off + k, none⟩ = some (.int .i64 (fs.getD k 0)) := by rw [Hd.out.cell]; exact hc k hlt
      clear hc
      have hgo := handAt_out fs k
      have hgi := handAt_in fs k
      have hob := Hbad.out k hlt
      have hhas := has_any (fs.take k) (fs.getD k 0)
      generalize fs.getD k 0 = y at *
      by_cases hx : y < 0 ∨ 51 < y
      · have HB : Hid (B = false) := Lib.hid (hob (hgo hx))
        clear hgo hgi hob hhas
        have Hin := Lib.hid (fun z => in_no y 0 51 z (by omega))
        go_wp2_with fail
        go_quiet ((go_at_call 68; exact quiet_same (Hin.out _)))
        go_wp2
        go_ret
        exact ⟨ret_bool HB.out.symm, Hd.out.more _⟩
      · have Hgood := Lib.hid (hgi (by omega) (by omega))
        have Hob := Lib.hid hob
        have Hhas := Lib.hid hhas
        clear hgo hgi hob hhas
        cases hB : (fs.take k).contains y
        all_goals
          have HB := Lib.hid hB
          clear hB
          have Hh := Lib.hid (fun z => Hhas.out _ (wr.drewN z) (by rw [List.length_take]; omega) (Hs'.out.drewN z))
          rw [HB.out] at Hh
          have Hin := Lib.hid (fun z => in_yes y 0 51 z (by omega) (by omega))
          go_wp2_with fail
          go_quiet ((first | (go_at_call 68; exact quiet_same (Hin.out _)) | (go_at_call 145; exact Calls.quiet_of (Hh.out _))))
          go_wp2
        · go_roundw
          case rel => exact ⟨k + 1, by omega, by go_num, fun j hj => by
            by_cases e : j = k
            · subst e; rw [Hgood.out, HB.out]; rfl
            · exact hp.out j (by omega), Hd.out.more _⟩
          case measure => simp [intOf]; omega
        · go_ret
          exact ⟨ret_bool (Hob.out (by rw [Hgood.out, HB.out]; rfl)).symm, Hd.out.more _⟩
    · obtain rfl : k = n := by omega
      have HB := Lib.hid (Hgd.out hp.out)
      go_wp2
      go_ret
      exact ⟨ret_bool HB.out.symm, Hd.out⟩

def handsB (fs gs : List Int) : Bool := decide (fs.length = gs.length) && (decide (fs.length ≤ 6) && cardsB (fs ++ gs))
theorem cards_nil : cardsB [] = true := rfl
theorem append_none (w : World) (p0 p : Option Addr) (c0 c : Nat) (ty : TypeId) : (Builtin.append_ #[22, 22] ty #[.slice p0 0 c0, .slice p 0 c]).run Try.prog w = .ok (.slice p0 0 c0) w := by
  obtain ⟨i0, hi, hz0, hz1, hz2⟩ := info_parts (show (Try.prog.info? 2).map (fun i => (i.zero, i.size, i.bytes)) = some (some (.int .i64 0), 1, 8) by kernel_rfl)
  have hu : Try.prog.underlying 22 = some (.slice 2) := by kernel_rfl
  have hl : ∀ (x : Addr), (loadCells x 0).run Try.prog w = .ok #[] w := fun x => by simpa using run_loadCells_list (P := Try.prog) w x [] (by simp)
  cases p <;> cases p0 <;> simp [Builtin.append_, run_underlying hu, Builtin.lenOf, Builtin.firstCells, sizeOf, typeInfo, hi, hl, storeCells]
def ok_AreHands (fs gs : List Int) : Bool := handsB fs gs
