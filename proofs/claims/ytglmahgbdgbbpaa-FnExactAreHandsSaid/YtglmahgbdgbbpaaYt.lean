/- Contracts: the library's Concat of two lists. -/
import Derived.Test.YtglmahgbdgbbpaaYs
set_option linter.unusedVariables false
namespace Go.Proofs.Ytglmahgbdgbbpaa
open Go.RowKit

theorem sl_news {w : World} {b off n cap : Nat} {fs : List Int} (h : Sl (Value.int .i64) 0 w (.slice (some ⟨b, off, none⟩) n cap) fs) : ∀ j u, (fs.map (Value.int .i64))[j]? = some u → w.cell? ((⟨b, off, none⟩ : Addr).add j) = some u := by
  intro j u hj
  rw [List.getElem?_map] at hj
  cases hx : fs[j]? with
  | none => rw [hx] at hj; cases hj
  | some x =>
    rw [hx] at hj
    cases hj
    have hj2 : j < fs.length := (List.getElem?_eq_some_iff.1 hx).1
    obtain ⟨p', cap', e, hf⟩ := h
    obtain ⟨_, b', off', e2, _, hc⟩ := hf (by omega)
    cases e
    cases e2
    have := hc j hj2
    rw [show fs.getD j 0 = x by simp [List.getD, hx]] at this
    rw [Addr.add_lit]
    exact this
theorem all_one (fs : List Int) : ∀ u ∈ fs.map (Value.int .i64), u.oneCell' = true := by
  intro u hu
  obtain ⟨x, -, rfl⟩ := List.mem_map.1 hu; rfl
theorem own_cat {w : World} {base : Nat} {e : TypeId} {v : Value} {l m : List Int} (h : w.ownsRow base e 1 v (l.length + m.length) (l.map (Value.int .i64) ++ m.map (Value.int .i64))) : w.ownsRow base e 1 v (l ++ m).length ((l ++ m).map (Value.int .i64)) := by
  rw [List.length_append, List.map_append]; exact h
set_option maxRecDepth 100000 in
set_option maxHeartbeats 4000000 in
theorem concat_two (fs gs : List Int) (v u : Value) (b : Nat) (w : World) (h1 : 1 ≤ fs.length) (h2 : 1 ≤ gs.length) (hn : fs.length ≤ 1000) (hm : gs.length ≤ 1000) (hv : Sl (Value.int .i64) 0 w v fs) (hu : Sl (Value.int .i64) 0 w u gs) (c0 : w.cell? ⟨b, 0, none⟩ = some v) (c1 : w.cell? ⟨b, 1, none⟩ = some u) :
    Calls Try.prog 53 #[.slice (some ⟨b, 0, none⟩) 2 2] w fun e w' => ∃ r, e = .returned r ∧ Sw (Value.int .i64) 0 w' r (fs ++ gs) w.heap.size w'.heap.size ∧ Below w.heap.size w w' := by
  obtain ⟨i0, hi, hz0, hz1, hz2⟩ := info_parts (show (Try.prog.info? 2).map (fun i => (i.zero, i.size, i.bytes)) = some (some (.int .i64 0), 1, 8) by kernel_rfl)
  have Hv := Lib.hid hv
  have Hu := Lib.hid hu
  obtain ⟨p, cap, rfl, hf⟩ := hv
  obtain ⟨q, cap', rfl, hg⟩ := hu
  obtain ⟨hcap, bf, of', rfl, hbf, -⟩ := hf (by omega)
  obtain ⟨hcap', bg, og, rfl, hbg, -⟩ := hg (by omega)
  clear hf hg
  have HG := Lib.hid (fun z => grow_nil (fs.length + gs.length) z (by omega) (by omega))
  have C0 := Lib.hid c0
  have C1 := Lib.hid c1
  have N1 := Lib.hid (fun z (hb : Below w.heap.size w z) => sl_news (Hv.out.later hb))
  have N2 := Lib.hid (fun z (hb : Below w.heap.size w z) => sl_news (Hu.out.later hb))
  have O1 := Lib.hid (all_one fs)
  have O2 := Lib.hid (all_one gs)
  have N1l : Hid ((fs.map (Value.int .i64)).length = fs.length * 1) := Lib.hid (by simp)
  have N2l : Hid ((gs.map (Value.int .i64)).length = gs.length * 1) := Lib.hid (by simp)
  have Hcat := Lib.hid (fun (w2 : World) v2 (h : w2.ownsRow w.heap.size 2 1 v2 (fs.length + gs.length) (fs.map (Value.int .i64) ++ gs.map (Value.int .i64))) => (Sw.of_owns (d := (0 : Int)) (own_cat h) rfl : Sw (Value.int .i64) 0 w2 v2 (fs ++ gs) w.heap.size w2.heap.size))
  generalize fs ++ gs = R at *
  generalize fs.map (Value.int .i64) = F at *
  generalize gs.map (Value.int .i64) = G at *
  clear Hv Hu c0 c1
  generalize fs.length = n at *
  generalize gs.length = m at *
  go_enter Try.func53, Try.ntmps53
  go_wp2
  go_loop [3, 11] (fun s i => (i = .int .i64 0 ∧ s = .int .i64 0) ∨ (i = .int .i64 1 ∧ s = .int .i64 (n : Int)) ∨ (i = .int .i64 2 ∧ s = .int .i64 ((n : Int) + (m : Int)))) (fun _ i => 2 - (intOf i).toNat)
  case atStart => exact .inl ⟨rfl, rfl⟩
  case round =>
    rcases hrel with ⟨rfl, rfl⟩ | ⟨rfl, rfl⟩ | ⟨rfl, rfl⟩
    · have c0 := C0.out
      have d0 : decide ((n : Int) < 0) = false := decide_eq_false (by omega)
      go_wp2
      go_round
      case rel => exact .inr (.inl ⟨rfl, rfl⟩)
      case measure => simp [intOf]
    · have c1 := C1.out
      have d0 : decide ((n : Int) + (m : Int) < 0) = false := decide_eq_false (by omega)
      go_wp2
      go_round
      case rel => exact .inr (.inr ⟨rfl, rfl⟩)
      case measure => simp [intOf]
    · have HG2 := Lib.hid (HG.out w)
      rw [Int.natCast_add] at HG2
      go_wp2_with (go_at_call 86; (with_reducible refine HG2.out.mono ?_); rintro e w1 ⟨r, rfl, hr, hb⟩; have Hr := Lib.hid hr; have Hb := Lib.hid hb; clear hr hb)
      go_loopw [6, 27] (fun x i wr => ∃ lv, lv = x ∧ ((i = .int .i64 0 ∧ Hid (wr.ownsRow w.heap.size 2 1 lv 0 [])) ∨ (i = .int .i64 1 ∧ Hid (wr.ownsRow w.heap.size 2 1 lv n F)) ∨ (i = .int .i64 2 ∧ Hid (wr.ownsRow w.heap.size 2 1 lv (n + m) (F ++ G)))) ∧ Hid (Below w.heap.size w wr)) (fun _ i _ => 2 - (intOf i).toNat)
      case atStart => exact ⟨_, rfl, .inl ⟨rfl, Hr⟩, Hb⟩
      case round =>
        obtain ⟨lv, rfl, hh, hbw⟩ := hrel
        have hsz := hbw.out.size
        rcases hh with ⟨rfl, hown⟩ | ⟨rfl, hown⟩ | ⟨rfl, hown⟩
        · have c0 := cell_keep hbw.out C0.out
          have N1w := Lib.hid (N1.out wr hbw.out)
          have N1wl := N1l
          go_wp2_with (at_builtin; refine wpList_append_own _ rfl _ _ 25 rfl w.heap.size 2 i0 (.int .i64 0) 1 8 (by kernel_rfl) hi hz0 hz1 hz2 rfl (by decide) _ _ _ rfl hown.out ⟨bf, of', none⟩ n cap (F) rfl N1wl.out N1w.out O1.out (by unfold maxLen; omega) (by omega) (by omega) ?_; intro v2 w2 hown2 hgrow2 _)
          have Hown2 := Lib.hid (show w2.ownsRow w.heap.size 2 1 v2 n F by simpa using hown2)
          have Hb2 := Lib.hid (hbw.out.grown hgrow2 hsz (fun b hb => (hown.out.lt b hb).1))
          clear hown2 hgrow2
          go_wp2
          go_roundw
          case rel => exact ⟨_, rfl, .inr (.inl ⟨rfl, Hown2⟩), Hb2⟩
          case measure => simp [intOf]
        · have c1 := cell_keep hbw.out C1.out
          have N2w := Lib.hid (N2.out wr hbw.out)
          have N2wl := N2l
          go_wp2_with (at_builtin; refine wpList_append_own _ rfl _ _ 25 rfl w.heap.size 2 i0 (.int .i64 0) 1 8 (by kernel_rfl) hi hz0 hz1 hz2 rfl (by decide) _ _ _ rfl hown.out ⟨bg, og, none⟩ m cap' (G) rfl N2wl.out N2w.out O2.out (by unfold maxLen; omega) (by omega) (by omega) ?_; intro v2 w2 hown2 hgrow2 _)
          have Hown2 := Lib.hid hown2
          have Hb2 := Lib.hid (hbw.out.grown hgrow2 hsz (fun b hb => (hown.out.lt b hb).1))
          clear hown2 hgrow2
          go_wp2
          go_roundw
          case rel => exact ⟨_, rfl, .inr (.inr ⟨rfl, Hown2⟩), Hb2⟩
          case measure => simp [intOf]
        · go_wp2
          go_ret
          exact ⟨_, rfl, Hcat.out _ _ hown.out, hbw.out⟩
end Go.Proofs.Ytglmahgbdgbbpaa
