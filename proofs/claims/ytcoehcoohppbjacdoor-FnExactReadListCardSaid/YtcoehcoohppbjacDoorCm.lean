/- Contracts: decimal numerals read, in both texts; the library's ParseInt laid at this program (the numbers of the laying are this seat's: lay1.sh). -/
import Derived.Test.YtcoehcoohppbjacDoorCe
import Derived.Shelf.Strconv.ParseIntPublic10
import Derived.Lib.AtoiErrMem
set_option linter.unusedVariables false
namespace Go.Proofs.YtcoehcoohppbjacDoor
open Go.RowKit Go.Shelf
def parseLays_ren : Go.Shelf.Ren := ⟨fun | 174 => 48 | 247 => 83 | 245 => 84 | 287 => 113 | 279 => 114 | 280 => 115 | 281 => 116 | 282 => 117 | 321 => 135 | 322 => 136 | 316 => 137 | 171 => 139 | 205 => 138 | 243 => 149 | 246 => 81 | 283 => 109 | 284 => 110 | 285 => 111 | 286 => 112 | 129 => 131 | 317 => 130 | 318 => 132 | 319 => 133 | 320 => 134 | 337 => 147 | 338 => 148 | n => n, fun | 9 => 9 | 3 => 3 | 2 => 2 | 75 => 60 | 85 => 61 | 4 => 4 | 167 => 128 | 5 => 5 | 53 => 123 | 175 => 129 | 46 => 131 | 168 => 132 | 37 => 79 | 0 => 0 | 210 => 153 | 21 => 21 | 127 => 115 | 145 => 160 | 143 => 158 | 171 => 122 | 173 => 126 | 212 => 146 | 51 => 139 | 20 => 20 | 213 => 147 | 232 => 165 | 233 => 166 | 80 => 88 | n => n, fun | 15 => 1 | 16 => 2 | 17 => 0 | 18 => 5 | 19 => 6 | n => n⟩
theorem parseLays : Go.Proofs.LaysC.n174 Tryd.prog parseLays_ren := {
  mixed := by kernel_rfl
  f129 := Tryd.func131.trans (congrArg some (by kernel_rfl))
  f171 := Tryd.func139.trans (congrArg some (by kernel_rfl))
  f174 := Tryd.func48.trans (congrArg some (by kernel_rfl))
  f205 := Tryd.func138.trans (congrArg some (by kernel_rfl))
  f243 := Tryd.func149.trans (congrArg some (by kernel_rfl))
  f245 := Tryd.func84.trans (congrArg some (by kernel_rfl))
  f246 := Tryd.func81.trans (congrArg some (by kernel_rfl))
  f247 := Tryd.func83.trans (congrArg some (by kernel_rfl))
  f279 := Tryd.func114.trans (congrArg some (by kernel_rfl))
  f280 := Tryd.func115.trans (congrArg some (by kernel_rfl))
  f281 := Tryd.func116.trans (congrArg some (by kernel_rfl))
  f282 := Tryd.func117.trans (congrArg some (by kernel_rfl))
  f283 := Tryd.func109.trans (congrArg some (by kernel_rfl))
  f284 := Tryd.func110.trans (congrArg some (by kernel_rfl))
  f285 := Tryd.func111.trans (congrArg some (by kernel_rfl))
  f286 := Tryd.func112.trans (congrArg some (by kernel_rfl))
  f287 := Tryd.func113.trans (congrArg some (by kernel_rfl))
  f316 := Tryd.func137.trans (congrArg some (by kernel_rfl))
  f317 := Tryd.func130.trans (congrArg some (by kernel_rfl))
  f318 := Tryd.func132.trans (congrArg some (by kernel_rfl))
  f319 := Tryd.func133.trans (congrArg some (by kernel_rfl))
  f320 := Tryd.func134.trans (congrArg some (by kernel_rfl))
  f321 := Tryd.func135.trans (congrArg some (by kernel_rfl))
  f322 := Tryd.func136.trans (congrArg some (by kernel_rfl))
  f337 := Tryd.func147.trans (congrArg some (by kernel_rfl))
  f338 := Tryd.func148.trans (congrArg some (by kernel_rfl))
  t0 := Tryd.underlying0
  a0 := Tryd.isAgg0
  z0 := Tryd.sizeOf0
  v0 := Tryd.zeroValue0
  t2 := Tryd.underlying2
  a2 := Tryd.isAgg2
  z2 := Tryd.sizeOf2
  v2 := Tryd.zeroValue2
  t3 := Tryd.underlying3
  a3 := Tryd.isAgg3
  z3 := Tryd.sizeOf3
  v3 := Tryd.zeroValue3
  t4 := Tryd.underlying4
  a4 := Tryd.isAgg4
  z4 := Tryd.sizeOf4
  v4 := Tryd.zeroValue4
  t5 := Tryd.underlying5
  a5 := Tryd.isAgg5
  z5 := Tryd.sizeOf5
  v5 := Tryd.zeroValue5
  t9 := Tryd.underlying9
  a9 := Tryd.isAgg9
  z9 := Tryd.sizeOf9
  v9 := Tryd.zeroValue9
  t20 := Tryd.underlying20
  a20 := Tryd.isAgg20
  z20 := Tryd.sizeOf20
  v20 := Tryd.zeroValue20
  t21 := Tryd.underlying21
  a21 := Tryd.isAgg21
  z21 := Tryd.sizeOf21
  v21 := Tryd.zeroValue21
  t37 := Tryd.underlying79
  a37 := Tryd.isAgg79
  z37 := Tryd.sizeOf79
  v37 := Tryd.zeroValue79
  t46 := Tryd.underlying131
  a46 := Tryd.isAgg131
  z46 := Tryd.sizeOf131
  v46 := Tryd.zeroValue131
  t51 := Tryd.underlying139
  a51 := Tryd.isAgg139
  z51 := Tryd.sizeOf139
  v51 := Tryd.zeroValue139
  t53 := Tryd.underlying123
  a53 := Tryd.isAgg123
  z53 := Tryd.sizeOf123
  v53 := Tryd.zeroValue123
  t75 := Tryd.underlying60
  a75 := Tryd.isAgg60
  z75 := Tryd.sizeOf60
  v75 := Tryd.zeroValue60
  t85 := Tryd.underlying61
  a85 := Tryd.isAgg61
  z85 := Tryd.sizeOf61
  v85 := Tryd.zeroValue61
  t127 := Tryd.underlying115
  a127 := Tryd.isAgg115
  z127 := Tryd.sizeOf115
  v127 := Tryd.zeroValue115
  t143 := Tryd.underlying158
  a143 := Tryd.isAgg158
  z143 := Tryd.sizeOf158
  v143 := Tryd.zeroValue158
  t145 := Tryd.underlying160
  a145 := Tryd.isAgg160
  z145 := Tryd.sizeOf160
  v145 := Tryd.zeroValue160
  t167 := Tryd.underlying128
  a167 := Tryd.isAgg128
  z167 := Tryd.sizeOf128
  v167 := Tryd.zeroValue128
  t168 := Tryd.underlying132
  a168 := Tryd.isAgg132
  z168 := Tryd.sizeOf132
  v168 := Tryd.zeroValue132
  t171 := Tryd.underlying122
  a171 := Tryd.isAgg122
  z171 := Tryd.sizeOf122
  v171 := Tryd.zeroValue122
  t173 := Tryd.underlying126
  a173 := Tryd.isAgg126
  z173 := Tryd.sizeOf126
  v173 := Tryd.zeroValue126
  t175 := Tryd.underlying129
  a175 := Tryd.isAgg129
  z175 := Tryd.sizeOf129
  v175 := Tryd.zeroValue129
  t210 := Tryd.underlying153
  a210 := Tryd.isAgg153
  z210 := Tryd.sizeOf153
  v210 := Tryd.zeroValue153
  t212 := Tryd.underlying146
  a212 := Tryd.isAgg146
  z212 := Tryd.sizeOf146
  v212 := Tryd.zeroValue146
  t213 := Tryd.underlying147
  a213 := Tryd.isAgg147
  z213 := Tryd.sizeOf147
  t232 := Tryd.underlying165
  a232 := Tryd.isAgg165
  z232 := Tryd.sizeOf165
  v232 := Tryd.zeroValue165
  t233 := Tryd.underlying166
  a233 := Tryd.isAgg166
  z233 := Tryd.sizeOf166
  v233 := Tryd.zeroValue166
  g15 := by kernel_rfl
  g16 := by kernel_rfl
  g17 := by kernel_rfl
  g18 := by kernel_rfl
  g19 := by kernel_rfl
  t80 := Tryd.underlying88
  a80 := Tryd.isAgg88
  z80 := Tryd.sizeOf88
  v80 := Tryd.zeroValue88
  i0 := by kernel_rfl
  i2 := by kernel_rfl
  i3 := by kernel_rfl
  i4 := by kernel_rfl
  i5 := by kernel_rfl
  i9 := by kernel_rfl
  i20 := by kernel_rfl
  i21 := by kernel_rfl
  i37 := by kernel_rfl
  i46 := by kernel_rfl
  i51 := by kernel_rfl
  i53 := by kernel_rfl
  i75 := by kernel_rfl
  i80 := by kernel_rfl
  i85 := by kernel_rfl
  i127 := by kernel_rfl
  i143 := by kernel_rfl
  i145 := by kernel_rfl
  i167 := by kernel_rfl
  i168 := by kernel_rfl
  i171 := by kernel_rfl
  i173 := by kernel_rfl
  i175 := by kernel_rfl
  i210 := by kernel_rfl
  i212 := by kernel_rfl
  i232 := by kernel_rfl
  i233 := by kernel_rfl
  m15 := by kernel_rfl
  m16 := by kernel_rfl
  m17 := by kernel_rfl
  m18 := by kernel_rfl
  m19 := by kernel_rfl
  c0 := by kernel_rfl
  c2 := by kernel_rfl
  c3 := by kernel_rfl
  c4 := by kernel_rfl
  c5 := by kernel_rfl
  c9 := by kernel_rfl
  c20 := by kernel_rfl
  c21 := by kernel_rfl
  c37 := by kernel_rfl
  c46 := by kernel_rfl
  c51 := by kernel_rfl
  c53 := by kernel_rfl
  c75 := by kernel_rfl
  c80 := by kernel_rfl
  c85 := by kernel_rfl
  c127 := by kernel_rfl
  c143 := by kernel_rfl
  c145 := by kernel_rfl
  c167 := by kernel_rfl
  c168 := by kernel_rfl
  c171 := by kernel_rfl
  c173 := by kernel_rfl
  c175 := by kernel_rfl
  c210 := by kernel_rfl
  c212 := by kernel_rfl
  c213 := by kernel_rfl
  c232 := by kernel_rfl
  c233 := by kernel_rfl }
/-- the library's two errors are some -/
def ErrS (w : World) : Prop := (∃ te pe, w.cell? ⟨1, 0, none⟩ = some (.iface te pe)) ∧ (∃ te pe, w.cell? ⟨2, 0, none⟩ = some (.iface te pe))
theorem ErrS.stays {w w' : World} (h : ErrS w) (hb : Below w.heap.size w w') : ErrS w' := by
  obtain ⟨⟨a, b, h1⟩, ⟨c, d, h2⟩⟩ := h
  exact ⟨⟨a, b, cell_keep hb h1⟩, ⟨c, d, cell_keep hb h2⟩⟩
theorem parse_any (s : ByteArray) (hs : s.size ≤ 1048576) (w : World) (hE : ErrS w) :
    Calls Tryd.prog 48 #[.string s, .int .i64 10, .int .i64 64] w fun e w' => ∃ v err, e = .returned (.tuple #[.int .i64 v, err]) ∧ ((Lib.parseIntB 64 s.data.toList = .ok v ∧ err = .nilIface) ∨ ((∀ v', Lib.parseIntB 64 s.data.toList ≠ .ok v') ∧ ∃ te pe, err = .iface te pe)) ∧ Below w.heap.size w w' := by
  obtain ⟨⟨a, b, h1⟩, ⟨c, d, h2⟩⟩ := hE
  cases h : Lib.parseIntB 64 s.data.toList with
  | ok v =>
    exact (Any.strconv_ParseInt_10_at64_ok parseLays s (by omega) v h w).mono fun e w' ⟨h3, h4⟩ => ⟨v, _, h3, .inl ⟨rfl, rfl⟩, by
      rcases h4 with rfl | ⟨t, rfl⟩
      · exact Below.refl _ _
      · exact Lib.bytesWorld_below w _ t⟩
  | «syntax» =>
    exact (Any.strconv_ParseInt_10_at64_syntax parseLays s (by omega) h _ w h1 (.inr ⟨a, b, rfl⟩)).mono fun e w' ⟨N, h3, _, _, h4⟩ => ⟨_, _, h3, .inr ⟨(fun v' e => by cases e), _, _, rfl⟩, h4⟩
  | range =>
    exact (Any.strconv_ParseInt_10_at64_range parseLays s (by omega) h _ w h2 (.inr ⟨c, d, rfl⟩)).mono fun e w' ⟨N, h3, _, _, h4⟩ => ⟨_, _, h3, .inr ⟨(fun v' e => by cases e), _, _, rfl⟩, h4⟩
theorem ret2n {a b : Int} {c d : Bool} (h : a = b) (g : c = d) : Ending.returned (.tuple #[.int .i64 a, .bool c]) = .returned (.tuple #[.int .i64 b, .bool d]) := by rw [h, g]
theorem toList_inj {s t : ByteArray} (h : s.toList = t.toList) : s = t := by
  rw [Go.Lib.toList_data, Go.Lib.toList_data] at h
  exact ByteArray.ext (Array.toList_inj.1 h)
theorem bytes_ne {s t : ByteArray} (h : ¬ s = t) : (s.toList == t.toList) = false := by
  rw [beq_eq_false_iff_ne]
  intro e
  exact h (toList_inj e)
theorem decS_eq {v : Int} {s : ByteArray} : decS v = s ↔ Lib.itoa v = s.data.toList := by
  unfold decS
  constructor
  · rintro rfl; rfl
  · intro h
    apply ByteArray.ext
    show (Lib.itoa v).toArray = s.data
    rw [h]
def ok_ReadDecimal (s : ByteArray) : Bool := rdB s.data.toList
def res_ReadDecimal (s : ByteArray) : Int := rdN s.data.toList
set_option maxRecDepth 100000 in
set_option maxHeartbeats 4000000 in
theorem impl_ReadDecimal (s : ByteArray) (w : World) (hs : s.size ≤ 1048576) (ht : TabP w) (hE : ErrS w) :
    Calls Tryd.prog 15 #[.string s] w fun e w' => e = .returned (.tuple #[.int .i64 (res_ReadDecimal s), .bool (ok_ReadDecimal s)]) ∧ Below w.heap.size w w' := by
  have H := Lib.hid (parse_any s hs w hE)
  have Hdec := Lib.hid (fun n h0 h1 z (hz : Below w.heap.size w z) => dec_impl n h0 h1 z (ht.stays hz))
  have Hval := Lib.hid value_any
  have Hok := Lib.hid (fun v h => rd_of (l := s.data.toList) (v := v) h)
  have Hbad := Lib.hid (fun v h h1 => rd_bad (l := s.data.toList) (v := v) h h1)
  have Herr := Lib.hid (rd_err (l := s.data.toList))
  have Hno := Lib.hid (rd_no (l := s.data.toList))
  have Heq := Lib.hid (fun v => decS_eq (v := v) (s := s))
  clear ht hE
  unfold res_ReadDecimal ok_ReadDecimal
  generalize rdN s.data.toList = R at *
  generalize rdB s.data.toList = B at *
  go_enter Tryd.func15, Tryd.ntmps15
  go_wp2_with fail
  refine (H.out).mono ?_
  rintro e w1 ⟨v, err, rfl, hcase, hb⟩
  have Hb := Lib.hid hb
  clear hb H
  rcases hcase with ⟨hp, rfl⟩ | ⟨hp, te, pe, rfl⟩
  · cases hv : okV v
    · have hB := Hbad.out v hp (.inl hv)
      have hR := Lib.hid (Hno.out hB)
      have Hv := Lib.hid (fun z => show Calls _ _ _ z fun e w' => e = .returned (.bool false) ∧ z = w' from hv ▸ Hval.out v z)
      subst hB
      clear Hdec Hval Hok Hbad Herr Hno Heq hp hv
      go_wp2_with (go_at_call 49; refine (Hv.out _).mono ?_; rintro e w' ⟨rfl, rfl⟩)
      go_ret2
      exact ⟨ret2n hR.out.symm rfl, Hb.out⟩
    · have hbd := okV_bd hv
      have Hv := Lib.hid (fun z => show Calls _ _ _ z fun e w' => e = .returned (.bool true) ∧ z = w' from hv ▸ Hval.out v z)
      have Hd := Lib.hid (Hdec.out v (by omega) (by omega) w1 Hb.out)
      by_cases hq : decS v = s
      · obtain ⟨hB, hR0⟩ := Hok.out v hp hv ((Heq.out v).1 hq)
        have hR := Lib.hid hR0
        subst hB
        rw [hq] at Hd
        clear Hdec Hval Hok Hbad Herr Hno Heq hp hv hR0 hq
        go_wp2_with (first | (go_at_call 49; refine (Hv.out _).mono ?_; rintro e w' ⟨rfl, rfl⟩) | (go_at_call 13; refine (Hd.out).mono ?_; rintro e w2 ⟨rfl, hb2⟩; have Hb2 := Lib.hid (below_step Hb.out hb2 (Nat.le_refl _)); clear hb2))
        go_ret2
        exact ⟨ret2n hR.out.symm rfl, Hb2.out⟩
      · have hB := Hbad.out v hp (.inr fun h => hq ((Heq.out v).2 h))
        have hR := Lib.hid (Hno.out hB)
        subst hB
        have hne := bytes_ne hq
        generalize decS v = t at *
        clear Hdec Hval Hok Hbad Herr Hno Heq hp hv hq
        go_wp2_with (first | (go_at_call 49; refine (Hv.out _).mono ?_; rintro e w' ⟨rfl, rfl⟩) | (go_at_call 13; refine (Hd.out).mono ?_; rintro e w2 ⟨rfl, hb2⟩; have Hb2 := Lib.hid (below_step Hb.out hb2 (Nat.le_refl _)); clear hb2))
        go_ret2
        exact ⟨ret2n hR.out.symm rfl, Hb2.out⟩
  · have hB := Herr.out hp
    have hR := Lib.hid (Hno.out hB)
    subst hB
    clear Hdec Hval Hok Hbad Herr Hno Heq hp
    go_wp2
    go_ret2
    exact ⟨ret2n hR.out.symm rfl, Hb.out⟩
end Go.Proofs.YtcoehcoohppbjacDoor
