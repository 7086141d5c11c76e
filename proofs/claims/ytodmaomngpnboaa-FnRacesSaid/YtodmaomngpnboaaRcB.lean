/- The law of races: its walk. -/
import Derived.Test.YtodmaomngpnboaaTe
import Derived.BigQuiet
import Derived.Test.YtodmaomngpnboaaCwH
import Derived.Test.YtodmaomngpnboaaPh
import Derived.Test.YtodmaomngpnboaaPf
import Derived.Deep.DeepCutAuto
import Derived.Deep.CutBlock
set_option linter.unusedVariables false
namespace Go.Proofs.Ytodmaomngpnboaa
open Go.RowKit
attribute [local go_sem] Oper.semAt_some

set_option maxHeartbeats 1000000 in
theorem ints10_any (fs : List Int) (v u : Value) (w : World) (hn : fs.length ≤ 1048576) (h : Sl (Value.int .i64) 0 w v fs) (g : Sl (Value.int .i64) 0 w u fs) :
    Calls Try.prog 24 #[v, u] w fun e w' => e = .returned (.bool true) ∧ Drawn w w' := by
  obtain ⟨p, cap, rfl, hf⟩ := h
  obtain ⟨q, cap', rfl, hg⟩ := g
  have Hf := Lib.hid hf
  have Hg := Lib.hid hg
  clear hf hg
  generalize fs.length = n at *
  have hne : ((n : Int) != (n : Int)) = false := by simp
  go_enter Try.func24, Try.ntmps24
  go_wp2
  go_loopw [13] (fun i wr => ∃ k : Nat, k ≤ n ∧ i = .int .i64 (k : Int) ∧ Drawn w wr) (fun i _ => n - (intOf i).toNat)
  case atStart => exact ⟨0, Nat.zero_le _, rfl, Drawn.refl _⟩
  case round =>
    obtain ⟨k, hk, rfl, hd⟩ := hrel
    by_cases hlt : k < n
    · obtain ⟨hcap, b, off, rfl, hbs, hc⟩ := Hf.out (by omega)
      obtain ⟨hcap', b', off', rfl, hbs', hc'⟩ := Hg.out (by omega)
      have c1 := (hd.cell _).trans (hc k hlt)
      have c2 := (hd.cell _).trans (hc' k hlt)
      clear hc hc'
      generalize fs.getD k 0 = x at *
      have nb : (x != x) = false := by simp
      go_wp2
      go_quiet (fail)
      go_wp2
      go_roundw
      case rel => exact ⟨k + 1, by omega, by go_num, hd.more _⟩
      case measure => simp [intOf]; omega
    · obtain rfl : k = n := by omega
      go_wp2
      go_ret
      exact ⟨rfl, hd⟩

set_option maxHeartbeats 1000000 in
theorem has10_yes (fs : List Int) (v : Value) (x : Int) (w : World) (hn : fs.length ≤ 1048576) (hx : ∃ j, j < fs.length ∧ fs.getD j 0 = x) (h : Sl (Value.int .i64) 0 w v fs) :
    Calls Try.prog 34 #[v, .int .i64 x] w fun e w' => e = .returned (.bool true) ∧ Drawn w w' := by
  obtain ⟨p, cap, rfl, hc⟩ := h
  obtain ⟨j, hj, hjx⟩ := hx
  obtain ⟨hcap, b, off, rfl, hbs, hcell⟩ := hc (by omega)
  have Hcell := Lib.hid hcell
  have Hx := Lib.hid hjx
  clear hc hcell hjx
  generalize fs.length = n at *
  go_enter Try.func34, Try.ntmps34
  go_wp2
  go_loopw [8] (fun i wr => ∃ k : Nat, k ≤ j ∧ i = .int .i64 (k : Int) ∧ Drawn w wr) (fun i _ => n - (intOf i).toNat)
  case atStart => exact ⟨0, Nat.zero_le _, rfl, Drawn.refl _⟩
  case round =>
    obtain ⟨k, hk, rfl, hd⟩ := hrel
    have c := (hd.cell _).trans (Hcell.out k (by omega))
    have hkn : k < n := by omega
    by_cases e : fs.getD k 0 = x
    · rw [e] at c
      go_wp2
      try go_quiet (fail)
      try go_wp2
      go_ret
      exact ⟨rfl, by first | exact hd | exact hd.more _⟩
    · have hne : k ≠ j := fun h => by subst h; exact e Hx.out
      have nb : (fs.getD k 0 == x) = false := by rw [beq_eq_false_iff_ne]; exact e
      have nb2 : (fs.getD k 0 = x) = False := eq_false e
      have hkj : k + 1 ≤ j := by omega
      clear e hne Hx
      generalize fs.getD k 0 = y at *
      go_wp2
      try go_quiet (fail)
      try go_wp2
      go_roundw
      case rel => exact ⟨k + 1, by omega, by go_num, by first | exact hd | exact hd.more _⟩
      case measure => simp [intOf]; omega

/-- what lies on the pans at weighing i, by the bytes -/
def pnX (fs : List Int) (i k : Nat) : Int := ((b10V fs (8 * i + k) 3 : Nat) : Int) - 1
def pnG (fs : List Int) (c i j : Nat) : Int := if j / 2 * 2 + 1 < c then (if j % 2 = 0 then pnX fs i j else -pnX fs i (j - 1)) else 0
def pnL (fs : List Int) (c n : Nat) : List Int := tab (n * c) (fun j => pnG fs c (j / c) (j % c))
theorem pnX_bd (fs : List Int) (i k : Nat) : -1 ≤ pnX fs i k ∧ pnX fs i k ≤ 1 := by
  have := b10V_lt fs (8 * i + k) 3 (by omega)
  unfold pnX; omega
theorem pnG_bd (fs : List Int) (c i j : Nat) : -1 ≤ pnG fs c i j ∧ pnG fs c i j ≤ 1 := by
  unfold pnG
  have a := pnX_bd fs i j
  have b := pnX_bd fs i (j - 1)
  split
  · split <;> omega
  · omega
theorem pnL_len (fs : List Int) (c n : Nat) : (pnL fs c n).length = n * c := tab_len _ _
theorem pnL_at (fs : List Int) (c n i j : Nat) (hi : i < n) (hj : j < c) : (pnL fs c n).getD (i * c + j) 0 = pnG fs c i j := by
  have h1 : i * c + c ≤ n * c := by rw [← Nat.succ_mul]; exact Nat.mul_le_mul_right c hi
  unfold pnL
  rw [tab_get _ _ _ (by omega), Nat.mul_comm i c, Nat.mul_add_div (by omega), Nat.div_eq_of_lt hj, Nat.mul_add_mod, Nat.mod_eq_of_lt hj, Nat.add_zero]
theorem pnL_succ (fs : List Int) (c n : Nat) (hc : 0 < c) : pnL fs c (n + 1) = pnL fs c n ++ tab c (pnG fs c n) := by
  unfold pnL tab
  rw [Nat.succ_mul, List.range_add, List.map_append, List.map_map]
  congr 1
  apply List.map_congr_left
  intro j hj
  have hj' := List.mem_range.1 hj
  show pnG fs c ((n * c + j) / c) ((n * c + j) % c) = pnG fs c n j
  rw [Nat.mul_comm n c, Nat.mul_add_div hc, Nat.div_eq_of_lt hj', Nat.mul_add_mod, Nat.mod_eq_of_lt hj', Nat.add_zero]
theorem pn_sum (fs : List Int) (c n i : Nat) (hi : i < n) : ∀ q, 2 * q ≤ c → sumLw (partL (pnL fs c n) c i) (2 * q) = 0
  | 0, _ => rfl
  | q + 1, h => by
    show sumLw (partL (pnL fs c n) c i) (2 * q) + (partL (pnL fs c n) c i).getD (2 * q) 0 + (partL (pnL fs c n) c i).getD (2 * q + 1) 0 = 0
    rw [pn_sum fs c n i hi q (by omega), partL_at (by omega), partL_at (by omega), pnL_at _ _ _ _ _ hi (by omega), pnL_at _ _ _ _ _ hi (by omega)]
    unfold pnG
    rw [if_pos (by omega), if_pos (by omega), if_pos (by omega), if_neg (by omega), show 2 * q + 1 - 1 = 2 * q by omega]
    omega
theorem pn_even (fs : List Int) (c n i : Nat) (hi : i < n) : evenB (pnL fs c n) c i = true := by
  unfold evenB sumP
  rw [beq_iff_eq]
  rcases Nat.mod_two_eq_zero_or_one c with h | h
  · have := pn_sum fs c n i hi (c / 2) (by omega)
    rw [show 2 * (c / 2) = c by omega] at this
    exact this
  · have := pn_sum fs c n i hi (c / 2) (by omega)
    rw [show sumLw (partL (pnL fs c n) c i) c = sumLw (partL (pnL fs c n) c i) (2 * (c / 2) + 1) by rw [show 2 * (c / 2) + 1 = c by omega]]
    show sumLw (partL (pnL fs c n) c i) (2 * (c / 2)) + (partL (pnL fs c n) c i).getD (2 * (c / 2)) 0 = 0
    rw [this, partL_at (by omega), pnL_at _ _ _ _ _ hi (by omega)]
    unfold pnG
    rw [if_neg (by omega)]
    rfl
theorem pn_good (fs : List Int) (c n : Nat) (hc : 2 ≤ c) (hc2 : c ≤ 8) (hn : 1 ≤ n) (hn2 : n ≤ 3) : goodW (pnL fs c n) (c : Int) ∧ cntWw (pnL fs c n) (c : Int) = n := by
  have hd : (pnL fs c n).length / (c : Int).toNat = n := by rw [pnL_len, Int.toNat_natCast]; exact Nat.mul_div_cancel n (by omega)
  refine ⟨⟨⟨⟨by omega, by omega⟩, ?_, by rw [hd]; omega⟩, ?_⟩, hd⟩
  · rw [pnL_len, Int.toNat_natCast]; exact Nat.mul_mod_left n c
  · rw [hd, Int.toNat_natCast]
    refine goodP_all _ _ _ (fun j hj => ?_) (fun i hi => pn_even fs c n i hi)
    rw [pnL_len] at hj
    have e : j = j / c * c + j % c := by rw [Nat.mul_comm]; exact (Nat.div_add_mod j c).symm
    rw [e, pnL_at fs c n (j / c) (j % c) ((Nat.div_lt_iff_lt_mul (by omega)).2 hj) (Nat.mod_lt _ (by omega))]
    exact pnG_bd _ _ _ _
theorem hvL_elem (fs : List Int) (k cnt : Nat) (sh : List Int) : ∀ (n : Nat) (x : Int), x ∈ hvL fs k cnt sh n → ∃ t : Nat, t < n ∧ x = (t : Int) - 1 ∧ wghL fs k cnt ((t : Int) - 1) = sh
  | 0, x, h => by simp [hvL] at h
  | n + 1, x, h => by
    rw [hvL] at h
    rcases List.mem_append.1 h with h | h
    · obtain ⟨t, a, b, c⟩ := hvL_elem fs k cnt sh n x h
      exact ⟨t, by omega, b, c⟩
    · split at h
      · rename_i e
        rw [List.mem_singleton] at h
        exact ⟨n, by omega, h, e⟩
      · simp at h
theorem hvL_has (fs : List Int) (k cnt : Nat) (sh : List Int) : ∀ (n t : Nat), t < n → wghL fs k cnt ((t : Int) - 1) = sh → ((t : Int) - 1) ∈ hvL fs k cnt sh n
  | 0, t, h, _ => by omega
  | n + 1, t, h, e => by
    rw [hvL]
    by_cases ht : t = n
    · subst ht; rw [if_pos e]; simp
    · exact List.mem_append_left _ (hvL_has fs k cnt sh n t (by omega) e)
/-- what the law asks of coins -/
theorem coin_facts (fs : List Int) (c n : Nat) (hc : 2 ≤ c) (hc2 : c ≤ 8) (hn : 1 ≤ n) (hn2 : n ≤ 3) (t : Nat) (ht : t < c + 1) :
    ∃ S T : List Int, S.length = n ∧ ok_WeighCoins (c : Int) (pnL fs c n) ((t : Int) - 1) = true ∧ res_WeighCoins (c : Int) (pnL fs c n) ((t : Int) - 1) = S ∧ ok_CoinsLeft (c : Int) (pnL fs c n) S = true ∧ res_CoinsLeft (c : Int) (pnL fs c n) S = T ∧
      T.length ≤ 9 ∧ (∃ j, j < T.length ∧ T.getD j 0 = (t : Int) - 1) ∧ ok_IsCoinPlan (c : Int) (pnL fs c n) = true ∧ (res_IsCoinPlan (c : Int) (pnL fs c n) = true → T.length = 1) ∧
      ∀ i, i < T.length → (-1 ≤ T.getD i 0 ∧ T.getD i 0 ≤ (c : Int) - 1) ∧ ok_WeighCoins (c : Int) (pnL fs c n) (T.getD i 0) = true ∧ res_WeighCoins (c : Int) (pnL fs c n) (T.getD i 0) = S := by
  obtain ⟨hg, hw⟩ := pn_good fs c n hc hc2 hn hn2
  have okw : ∀ h : Int, -1 ≤ h → h ≤ (c : Int) - 1 → ok_WeighCoins (c : Int) (pnL fs c n) h = true ∧ res_WeighCoins (c : Int) (pnL fs c n) h = wghL (pnL fs c n) c n h := fun h h1 h2 => by
    have hk : okWC (c : Int) (pnL fs c n) h := ⟨hg, h1, h2⟩
    refine ⟨decide_eq_true hk, ?_⟩
    unfold res_WeighCoins
    rw [if_pos hk, hw, Int.toNat_natCast]
  have hsl : (wghL (pnL fs c n) c n ((t : Int) - 1)).length = n := wghL_len _ _ _ _
  have hcl : okCL (c : Int) (pnL fs c n) (wghL (pnL fs c n) c n ((t : Int) - 1)) := by
    refine ⟨hg, by rw [hsl, hw], allB_of fun i hi => ?_⟩
    rw [hsl] at hi
    unfold wghL
    rw [tab_get _ _ _ hi]
    unfold wghG
    split
    · omega
    · rw [pnL_at fs c n i _ hi (by omega)]
      exact pnG_bd _ _ _ _
  have hT : res_CoinsLeft (c : Int) (pnL fs c n) (wghL (pnL fs c n) c n ((t : Int) - 1)) = hvL (pnL fs c n) c n (wghL (pnL fs c n) c n ((t : Int) - 1)) (c + 1) := by
    unfold res_CoinsLeft
    rw [if_pos hcl, hw, Int.toNat_natCast]
  have hm := hvL_has (pnL fs c n) c n (wghL (pnL fs c n) c n ((t : Int) - 1)) (c + 1) t ht rfl
  refine ⟨wghL (pnL fs c n) c n ((t : Int) - 1), _, hsl, (okw _ (by omega) (by omega)).1, (okw _ (by omega) (by omega)).2, decide_eq_true hcl, hT, ?_, ?_, decide_eq_true hg, fun hp => ?_, fun i hi => ?_⟩
  · have := hvL_len (pnL fs c n) c n (wghL (pnL fs c n) c n ((t : Int) - 1)) (c + 1); omega
  · obtain ⟨j, hj, e⟩ := List.mem_iff_getElem.1 hm
    exact ⟨j, hj, by rw [getD_lt _ _ _ hj]; exact e⟩
  · unfold res_IsCoinPlan at hp
    rw [decide_eq_true hg, Bool.true_and, hw, Int.toNat_natCast] at hp
    have h1 : ¬ 2 ≤ (hvL (pnL fs c n) c n (wghL (pnL fs c n) c n ((t : Int) - 1)) (c + 1)).length := fun h => by
      rw [diffB_two h] at hp; cases hp
    have h2 : 0 < (hvL (pnL fs c n) c n (wghL (pnL fs c n) c n ((t : Int) - 1)) (c + 1)).length := List.length_pos_of_mem hm
    omega
  · rw [getD_lt _ _ _ hi]
    obtain ⟨u, hu, e1, e2⟩ := hvL_elem _ _ _ _ _ _ (List.getElem_mem hi)
    rw [e1]
    refine ⟨by omega, (okw _ (by omega) (by omega)).1, ?_⟩
    rw [(okw _ (by omega) (by omega)).2]; exact e2
/-- what the law asks of races -/
def raceB (f l o : Nat) : Bool :=
  ok_RaceChance l l f && ok_RaceChance l o f && ok_RaceRolls l f && ok_RaceRolls 0 f && decide (res2_RaceChance l l f ≤ 2 * res_RaceChance l l f) && decide (res_RaceChance l l f ≤ res2_RaceChance l l f) && decide (0 ≤ res_RaceChance l l f) && decide (res2_RaceChance l l f ≤ 1000000000000000) &&
  decide (1 ≤ res2_RaceRolls l f) && decide (res2_RaceRolls l f ≤ res_RaceRolls l f) && decide (res_RaceRolls l f ≤ l * res2_RaceRolls l f) && decide (res2_RaceRolls l f ≤ 1000000000000000) && decide (res_RaceRolls 0 f = 0) && decide (res2_RaceRolls 0 f = 1)
theorem race_all : ∀ f, f < 5 → ∀ l, l < 6 → ∀ o, o < 6 → raceB (f + 2) (l + 1) (o + 1) = true := by decide +kernel
theorem own_zeroR (w : World) (base : Nat) (e : TypeId) (hb : base ≤ w.heap.size) : (w.alloc (.cells #[] e)).ownsRow base e 1 (.slice (some ⟨w.heap.size, 0, none⟩) 0 0) 0 [] :=
  World.ownsRow_made w #[] 0 hb (Nat.zero_le _) rfl
theorem news_row {w : World} {b n cap : Nat} {L : List Int} (h : Sl (Value.int .i64) 0 w (.slice (some ⟨b, 0, none⟩) n cap) L) : ∀ j u, (L.map (Value.int .i64))[j]? = some u → w.cell? ((⟨b, 0, none⟩ : Addr).add j) = some u := by
  intro j u hu
  obtain ⟨p, c, e, hx⟩ := h
  rw [List.getElem?_map] at hu
  rcases Nat.lt_or_ge j L.length with hj | hj
  · obtain ⟨_, b', off, e2, _, hcell⟩ := hx (by omega)
    cases e
    cases e2
    rw [List.getElem?_eq_getElem hj] at hu
    cases hu
    have := hcell j hj
    rw [getD_lt _ _ _ hj] at this
    unfold Addr.add
    split
    · rename_i e0
      subst e0
      exact this
    · exact this
  · rw [List.getElem?_eq_none hj] at hu
    cases hu
theorem ones_int (L : List Int) : ∀ u ∈ L.map (Value.int .i64), u.oneCell' = true := by
  intro u hu
  obtain ⟨x, _, rfl⟩ := List.mem_map.1 hu
  rfl
/-- one round of a row: two stores -/
theorem row_step (fs : List Int) (c i J : Nat) (hJ : J % 2 = 0) (hc : J + 1 < c) : ((tab c (fun t => if t < J then pnG fs c i t else 0)).set J (pnX fs i J)).set (J + 1) (-pnX fs i J) = tab c (fun t => if t < J + 2 then pnG fs c i t else 0) := by
  rw [tab_setC, tab_setC]
  refine tab_congr fun t ht => ?_
  by_cases e1 : t = J + 1
  · subst e1
    rw [if_pos rfl, if_pos (by omega)]
    unfold pnG
    rw [if_pos (by omega), if_neg (by omega)]
    rfl
  · rw [if_neg e1]
    by_cases e2 : t = J
    · subst e2
      rw [if_pos rfl, if_pos (by omega)]
      unfold pnG
      rw [if_pos (by omega), if_pos hJ]
    · rw [if_neg e2]
      by_cases e3 : t < J
      · rw [if_pos e3, if_pos (by omega)]
      · rw [if_neg e3, if_neg (by omega)]
theorem row_done (fs : List Int) (c i J : Nat) (hJ : J % 2 = 0) (hc : ¬ J + 1 < c) : tab c (fun t => if t < J then pnG fs c i t else 0) = tab c (pnG fs c i) := by
  refine tab_congr fun t ht => ?_
  by_cases e : t < J
  · rw [if_pos e]
  · rw [if_neg e]
    unfold pnG
    rw [if_neg (by omega)]
def tailN : Nat → Code → Code
  | 0, c => c
  | n + 1, .seq _ b => tailN n b
  | _ + 1, c => c
def headN (n : Nat) (c : Code) : Code := match tailN n c with
  | .seq a _ => a
  | c => c
noncomputable def fnBody : Code := (Try.f5.body).getD .skip
set_option maxRecDepth 1000000 in
set_option maxHeartbeats 16000000 in
theorem stageR (fs : List Int) (v v2 : Value) (c n t : Nat) (pp : Option Addr) (cp : Nat) (w wr : World) (s2 s3 s4 s5 s6 s7 s8 s9 s10 s11 s12 s13 s14 s15 s16 s17 s18 s19 s20 s21 s22 s23 s24 s27 s28 s29 s30 s31 s32 s33 s34 s35 s36 s37 s38 s39 s40 s41 s42 s43 s44 s45 s46 s47 s48 s49 s50 s51 s52 s53 s54 s55 s56 s57 s58 s59 s60 s61 s62 s63 s64 s65 s66 s67 s68 s69 s70 s71 s72 s73 s74 s75 s76 s77 s78 s79 s80 s81 s82 s83 s84 s85 s86 s87 s88 s89 s90 s91 s92 s93 s94 s95 s96 s97 s98 s99 s100 s101 s102 s103 s104 s105 s106 s107 s108 s109 s110 s111 s112 s113 s114 s115 s116 s117 s118 s119 s120 s121 s122 s123 s124 s125 s126 s127 s128 s129 s130 s131 s132 s133 s134 s135 s136 s137 s138 s139 s140 s141 s142 s143 s144 s145 s146 s147 s148 s149 s150 s151 s152 s153 s154 s155 s156 s157 s158 s159 s160 s161 s162 s163 s164 s165 s166 s167 s168 s169 s170 s171 s172 s173 s174 s175 s176 s177 s178 s179 s180 s181 s182 s183 s184 s185 s186 s187 s188 s189 s190 s191 s192 s193 s194 s195 s196 s197 s198 s199 s200 s201 s202 s203 s204 s205 s206 s207 s208 s209 s210 s211 s212 s213 s214 s215 s216 s217 s218 s219 s220 s221 s222 s223 s224 s225 s226 s227 s228 s229 s230 s231 s232 s233 s234 s235 s236 s237 s238 s239 s240 s241 s242 s243 s244 s245 s246 s247 s248 s249 s250 s251 s252 s253 s254 s255 s256 s257 s258 s259 s260 s261 s262 s263 s264 s265 s266 s267 s268 s269 s270 s271 s272 s273 s274 s275 s276 s277 s278 s279 s280 s281 s282 s283 s284 s285 s286 s287 s288 s289 s290 s291 s292 s293 s294 s295 s296 s297 s298 s299 s300 s301 s302 s303 s304 s305 s306 s307 s308 : Value) (K : Act → World → Prop)
    (hK : ∀ a z, Code.wp Try.prog (tailN 15 fnBody) (bodyPost Try.prog Try.f5 fun e w' => e = Ending.returned (Value.bool true) ∧ Below w.heap.size w w') a z → K a z)
    (hW : Below w.heap.size w wr) (hsl : Sl (Value.int .i64) 0 wr (.slice pp (n * c) cp) (pnL fs c n)) (bc1 : 2 ≤ c) (bc2 : c ≤ 8) (bn1 : 1 ≤ n) (bn2 : n ≤ 3) (ht : t < c + 1)
    (H5 : Hid (∀ z, Below w.heap.size w z → Calls Try.prog 22 #[v2, .int .i64 ((5 : Nat) : Int), .int .i64 ((c + 1 : Nat) : Int)] z fun e w' => e = .returned (.int .i64 ((t : Nat) : Int)) ∧ z = w')) :
    Code.wp Try.prog (headN 14 fnBody) (Exit.then K (bodyPost Try.prog Try.f5 fun e w' => e = Ending.returned (Value.bool true) ∧ Below w.heap.size w w')) ⟨#[v, v2, s2, s3, s4, s5, s6, s7, s8, s9, s10, s11, s12, s13, s14, s15, s16, s17, s18, s19, s20, s21, s22, s23, s24, .int .i64 (c : Int), .slice pp (n * c) cp, s27, s28, s29, s30, s31, s32, s33, s34, s35, s36, s37, s38, s39, s40, s41, s42, s43, s44, s45, s46, s47, s48, s49, s50, s51, s52, s53, s54, s55, s56, s57, s58, s59, s60, s61, s62, s63, s64, s65, s66, s67, s68, s69, s70, s71, s72, s73, s74, s75, s76, s77, s78, s79, s80, s81, s82, s83, s84, s85, s86, s87, s88, s89, s90, s91, s92, s93, s94, s95, s96, s97, s98, s99, s100, s101, s102, s103, s104, s105, s106, s107, s108, s109, s110, s111, s112, s113, s114, s115, s116, s117, s118, s119, s120, s121, s122, s123, s124, s125, s126, s127, s128, s129, s130, s131, s132, s133, s134, s135, s136, s137, s138, s139, s140, s141, s142, s143, s144, s145, s146, s147, s148, s149, s150, s151, s152, s153, s154, s155, s156, s157, s158, s159, s160, s161, s162, s163, s164, s165, s166, s167, s168, s169, s170, s171, s172, s173, s174, s175, s176, s177, s178, s179, s180, s181, s182, s183, s184, s185, s186, s187, s188, s189, s190, s191, s192, s193, s194, s195, s196, s197, s198, s199, s200, s201, s202, s203, s204, s205, s206, s207, s208, s209, s210, s211, s212, s213, s214, s215, s216, s217, s218, s219, s220, s221, s222, s223, s224, s225, s226, s227, s228, s229, s230, s231, s232, s233, s234, s235, s236, s237, s238, s239, s240, s241, s242, s243, s244, s245, s246, s247, s248, s249, s250, s251, s252, s253, s254, s255, s256, s257, s258, s259, s260, s261, s262, s263, s264, s265, s266, s267, s268, s269, s270, s271, s272, s273, s274, s275, s276, s277, s278, s279, s280, s281, s282, s283, s284, s285, s286, s287, s288, s289, s290, s291, s292, s293, s294, s295, s296, s297, s298, s299, s300, s301, s302, s303, s304, s305, s306, s307, s308], []⟩ wr := by
  conv at hK => enter [a, z, 1, 2]; whnf
  conv => arg 2; whnf
  have hwz := hW.size
  have hkc : n * c ≤ 24 := Nat.le_trans (Nat.mul_le_mul bn2 bc2) (by omega)
  have E5 := Lib.hid (show (c : Int) + 1 = ((c + 1 : Nat) : Int) by omega)
  obtain ⟨S', T, f1, f2, f3, f4, f5, f6, f7, f8, f9, f10⟩ := coin_facts fs c n bc1 bc2 bn1 bn2 t ht
  have hlp : (pnL fs c n).length ≤ 1048576 := by rw [pnL_len]; omega
  have hss : S'.length ≤ 1048576 := by omega
  have htt : T.length ≤ 1048576 := by omega
  have HSL := Lib.hid hsl
  have HWE := Lib.hid (fun z (hz : Below wr.heap.size wr z) y (h1 : -1 ≤ y) (h2 : y ≤ (c : Int) - 1) => spec_WeighCoins (c : Int) (by omega) (by omega) (pnL fs c n) _ y (by omega) (by omega) z hlp (hsl.later hz))
  have HW1 := Lib.hid (impl_WeighCoins (c : Int) (by omega) (by omega) (pnL fs c n) _ ((t : Int) - 1) (by omega) (by omega) wr hlp hsl)
  rw [f2, f3] at HW1
  have HW2 := Lib.hid (fun z u (hz : Below wr.heap.size wr z) (hu : Sl (Value.int .i64) 0 z u S') => impl_CoinsLeft (c : Int) (by omega) (by omega) (pnL fs c n) _ S' u z hlp (hsl.later hz) hss hu)
  rw [f4, f5] at HW2
  have HW3 := Lib.hid (fun z (hz : Below wr.heap.size wr z) => impl_IsCoinPlan (c : Int) (by omega) (by omega) (pnL fs c n) _ z hlp (hsl.later hz))
  have HW4 := Lib.hid (fun z (hz : Below wr.heap.size wr z) => spec_IsCoinPlan (c : Int) (by omega) (by omega) (pnL fs c n) _ z hlp (hsl.later hz))
  rw [f8] at HW3 HW4
  have HF9 := Lib.hid f9
  have HF10 := Lib.hid f10
  have HF7 := Lib.hid f7
  obtain ⟨KC, hKC⟩ : ∃ z, z = n * c := ⟨_, rfl⟩
  have dq : (KC : Int) / (c : Int) = (n : Int) := by rw [hKC, Int.natCast_mul]; exact Int.mul_ediv_cancel _ (by omega)
  rw [← hKC] at HSL HWE HW1 HW2 HW3 HW4 hkc ⊢
  have dz : ((c : Int) = 0) = False := eq_false (by omega)
  have dk : ((n : Int) != (n : Int)) = false := by simp
  generalize res_IsCoinPlan (c : Int) (pnL fs c n) = PB at *
  clear hsl f2 f3 f4 f5 f7 f8 f9 f10 hKC hlp
  have HF1 := Lib.hid f1
  go_wp2_with fail
  rw [E5.out]
  refine (H5.out _ hW).mono ?_
  rintro e w' ⟨rfl, rfl⟩
  go_wp2_with fail
  refine HW1.out.mono ?_
  rintro e w10 ⟨r10, rfl, h10, hb10⟩
  have HS10 := Lib.hid h10.sl
  have HB10 := Lib.hid hb10
  clear h10 hb10
  go_wp2_with fail
  refine (HW2.out _ _ HB10.out HS10.out).mono ?_
  rintro e w11 ⟨r11, rfl, h11, hb11⟩
  have HT11 := Lib.hid h11.sl
  have HS11 := Lib.hid (HS10.out.later hb11)
  have HB11 := Lib.hid (HB10.out.trans (hb11.mono HB10.out.size))
  clear h11 hb11 HS10 HB10
  go_wp2_with fail
  refine (HW3.out _ HB11.out).mono ?_
  rintro e w12 ⟨rfl, hb12⟩
  have HT12 := Lib.hid (HT11.out.later hb12)
  have HS12 := Lib.hid (HS11.out.later hb12)
  have HB12 := Lib.hid (HB11.out.trans (hb12.mono HB11.out.size))
  clear hb12 HT11 HS11 HB11
  go_wp2_with fail
  refine (HW4.out _ HB12.out).mono ?_
  rintro e w13 ⟨rfl, hb13⟩
  have HT13 := Lib.hid (HT12.out.later hb13)
  have HS13 := Lib.hid (HS12.out.later hb13)
  have HB13 := Lib.hid (HB12.out.trans (hb13.mono HB12.out.size))
  clear hb13 HT12 HS12 HB12 HW1 HW2 HW3 HW4
  have HH := Lib.hid (has10_yes T r11 ((t : Int) - 1) w13 htt HF7.out HT13.out)
  have HIN := Lib.hid (fun z u (hz : Below w13.heap.size w13 z) (hu : Sl (Value.int .i64) 0 z u S') => ints10_any S' u r10 z hss hu (HS13.out.later hz))
  obtain ⟨q10, c10, rfl, -⟩ := id HS13.out
  obtain ⟨q11, c11, rfl, h11c⟩ := id HT13.out
  have HT11c := Lib.hid h11c
  rw [HF1.out] at HIN HS13 ⊢
  have hTl : T.length ≤ 9 := f6
  obtain ⟨tl, htl⟩ : ∃ z, z = T.length := ⟨_, rfl⟩
  have HTl := Lib.hid htl
  rw [← htl] at hTl HT11c HF9 HF10 HH ⊢
  clear f6 htl h11c f1 hss htt
  go_upto_region 31 with fail
  go_cut [284] (fun s284 wx => s284 = .bool false ∧ Hid (Drawn w13 wx))
  case first =>
    cases PB
    · go_wp2_with fail
      refine HH.out.mono ?_
      rintro e w14 ⟨rfl, hd14⟩
      have Hd14 := Lib.hid hd14
      clear hd14
      go_wp2_with fail
      go_meet
      exact ⟨rfl, Hd14⟩
    · have hn1 : ((tl : Int) != 1) = false := by rw [HF9.out rfl]; rfl
      go_wp2_with fail
      refine HH.out.mono ?_
      rintro e w14 ⟨rfl, hd14⟩
      have Hd14 := Lib.hid hd14
      clear hd14
      go_wp2_with fail
      go_meet
      exact ⟨rfl, Hd14⟩
  case rest =>
    obtain ⟨rfl, hd14⟩ := hcut
    have hz14 : wc.heap.size = w13.heap.size := by rw [hd14.out.heap]
    clear HH
    go_wp2_with fail
    go_loopw [287] (fun i wr => ∃ j : Nat, j ≤ tl ∧ i = .int .i64 (j : Int) ∧ Hid (Below w13.heap.size w13 wr)) (fun i _ => tl - (intOf i).toNat)
    case atStart => exact ⟨0, Nat.zero_le _, rfl, Lib.hid (hd14.out.below _)⟩
    case round =>
      obtain ⟨j, hj, rfl, hB⟩ := hrel
      by_cases hlj : j < tl
      · obtain ⟨⟨y1, y2⟩, y3, y4⟩ := HF10.out j hlj
        obtain ⟨hcp, bq, oq, rfl, hbq, hcell⟩ := HT11c.out (by omega)
        have ce := (hB.out.cell (p := ⟨bq, oq + j, none⟩) hbq).trans (hcell j hlj)
        have HC := Lib.hid (HWE.out _ (HB13.out.trans (hB.out.mono HB13.out.size)) (T.getD j 0) y1 y2)
        rw [y3, y4] at HC
        have hbz := hB.out.size
        clear hcell y3 y4 HWE HF10
        generalize T.getD j 0 = y at *
        go_wp2_with fail
        refine HC.out.mono ?_
        rintro e w15 ⟨r15, rfl, h15, hb15⟩
        have HB15 := Lib.hid (hB.out.trans (hb15.mono hbz))
        have HI := Lib.hid (HIN.out w15 r15 HB15.out h15.sl)
        clear h15 hb15 HC
        go_wp2_with fail
        refine HI.out.mono ?_
        rintro e w16 ⟨rfl, hd16⟩
        have HB16 := Lib.hid (HB15.out.trans (hd16.below _))
        clear hd16 HB15 HI
        go_wp2
        go_roundw
        case rel => exact ⟨j + 1, by omega, by go_num, HB16⟩
        case measure => simp [intOf]; omega
      · obtain rfl : j = tl := by omega
        have HE := Lib.hid ((hW.trans (HB13.out.mono hwz)).trans (hB.out.mono (Nat.le_trans hwz HB13.out.size)))
        clear hB HWE HF10 HIN
        go_wp2
        go_ret
        exact ⟨rfl, HE.out⟩

theorem race_facts {f l o : Nat} (h : raceB f l o = true) : ok_RaceChance l l f = true ∧ ok_RaceChance l o f = true ∧ ok_RaceRolls l f = true ∧ ok_RaceRolls 0 f = true ∧ res2_RaceChance l l f ≤ 2 * res_RaceChance l l f ∧ res_RaceChance l l f ≤ res2_RaceChance l l f ∧ 0 ≤ res_RaceChance l l f ∧ res2_RaceChance l l f ≤ 1000000000000000 ∧
    1 ≤ res2_RaceRolls l f ∧ res2_RaceRolls l f ≤ res_RaceRolls l f ∧ res_RaceRolls l f ≤ l * res2_RaceRolls l f ∧ res2_RaceRolls l f ≤ 1000000000000000 ∧ res_RaceRolls 0 f = 0 ∧ res2_RaceRolls 0 f = 1 := by
  unfold raceB at h
  simp only [Bool.and_eq_true, decide_eq_true_eq] at h
  obtain ⟨⟨⟨⟨⟨⟨⟨⟨⟨⟨⟨⟨⟨h1, h2⟩, h3⟩, h4⟩, h5⟩, h6⟩, h7⟩, h8⟩, h9⟩, h10⟩, h11⟩, h12⟩, h13⟩, h14⟩ := h
  exact ⟨h1, h2, h3, h4, h5, h6, h7, h8, h9, h10, h11, h12, h13, h14⟩
set_option maxRecDepth 1000000 in
set_option maxHeartbeats 8000000 in
theorem walk_FnRaces (fs gs : List Int) (v v2 : Value) (w : World) (hl : fs.length ≤ maxLen) (hl2 : gs.length ≤ maxLen) (hbf : BsB fs) (hbs : BsB gs) (h : Sl (Value.int .u8) 0 w v fs) (h2 : Sl (Value.int .u8) 0 w v2 gs) :
    Calls Try.prog 5 #[v, v2] w fun e w' => e = .returned (.bool true) ∧ Below w.heap.size w w' := by
  have HL := Lib.hid (long10_any fs gs v v2 w hl hl2 h h2)
  by_cases hlong : (decide (1048576 < fs.length) || decide (1048576 < gs.length)) = true
  · rw [hlong] at HL
    clear hlong h h2
    go_enter Try.func5, Try.ntmps5
    go_wp2_with (first | (go_at_call 21; refine HL.out.mono ?_; rintro e w' ⟨rfl, rfl⟩))
    go_ret
    exact ⟨rfl, Below.refl _ _⟩
  · rw [Bool.not_eq_true] at hlong
    rw [hlong] at HL
    clear hlong
    have HA := Lib.hid (fun (z : World) (hz : Below w.heap.size w z) (k n : Nat) (hn : 1 ≤ n) (hn2 : n ≤ 1000000) (hk : k ≤ 1000) => at10_any gs v2 k n z hn hn2 hk hl2 hbs (h2.later hz))
    have HB := Lib.hid (fun (z : World) (hz : Below w.heap.size w z) (i k : Nat) (hk : 8 * i + k ≤ 1000) => at10_any fs v (8 * i + k) 3 z (by omega) (by omega) hk hl hbf (h.later hz))
    have H0 := Lib.hid (fun z hz => HA.out z hz 0 5 (by omega) (by omega) (by omega))
    have H1 := Lib.hid (fun z hz => HA.out z hz 1 6 (by omega) (by omega) (by omega))
    have H2 := Lib.hid (fun z hz => HA.out z hz 2 6 (by omega) (by omega) (by omega))
    have H3 := Lib.hid (fun z hz => HA.out z hz 3 7 (by omega) (by omega) (by omega))
    have H4 := Lib.hid (fun z hz => HA.out z hz 4 3 (by omega) (by omega) (by omega))
    have x0 := b10V_lt gs 0 5 (by omega)
    have x1 := b10V_lt gs 1 6 (by omega)
    have x2 := b10V_lt gs 2 6 (by omega)
    have x3 := b10V_lt gs 3 7 (by omega)
    have x4 := b10V_lt gs 4 3 (by omega)
    have HX5 := Lib.hid (fun n hn => b10V_lt gs 5 n hn)
    generalize b10V gs 0 5 = f0 at *
    generalize b10V gs 1 6 = l0 at *
    generalize b10V gs 2 6 = o0 at *
    generalize b10V gs 3 7 = c0 at *
    generalize b10V gs 4 3 = n0 at *
    have HR := Lib.hid (race_facts (race_all f0 x0 l0 x1 o0 x2))
    obtain ⟨f, hf⟩ : ∃ a, a = f0 + 2 := ⟨_, rfl⟩
    obtain ⟨l, hl'⟩ : ∃ a, a = l0 + 1 := ⟨_, rfl⟩
    obtain ⟨o, ho⟩ : ∃ a, a = o0 + 1 := ⟨_, rfl⟩
    obtain ⟨c, hc⟩ : ∃ a, a = c0 + 2 := ⟨_, rfl⟩
    obtain ⟨n, hn⟩ : ∃ a, a = n0 + 1 := ⟨_, rfl⟩
    rw [← hf, ← hl', ← ho] at HR
    have EF := Lib.hid (show (2 : Int) + (f0 : Int) = (f : Int) by omega)
    have EL := Lib.hid (show (1 : Int) + (l0 : Int) = (l : Int) by omega)
    have EO := Lib.hid (show (1 : Int) + (o0 : Int) = (o : Int) by omega)
    have EC := Lib.hid (show (2 : Int) + (c0 : Int) = (c : Int) by omega)
    have EN := Lib.hid (show (1 : Int) + (n0 : Int) = (n : Int) by omega)
    have bf : 2 ≤ f ∧ f ≤ 6 := by omega
    have bl : 1 ≤ l ∧ l ≤ 6 := by omega
    have bo : 1 ≤ o ∧ o ≤ 6 := by omega
    have bc : 2 ≤ c ∧ c ≤ 8 := by omega
    have bn : 1 ≤ n ∧ n ≤ 3 := by omega
    have HLL := Lib.hid (fun z => impl_RaceChance (l : Int) (by omega) (by omega) (l : Int) (by omega) (by omega) (f : Int) (by omega) (by omega) z)
    have HLO := Lib.hid (fun z => impl_RaceChance (l : Int) (by omega) (by omega) (o : Int) (by omega) (by omega) (f : Int) (by omega) (by omega) z)
    have HLS := Lib.hid (fun z => spec_RaceChance (l : Int) (by omega) (by omega) (o : Int) (by omega) (by omega) (f : Int) (by omega) (by omega) z)
    have HRI := Lib.hid (fun z => impl_RaceRolls (l : Int) (by omega) (by omega) (f : Int) (by omega) (by omega) z)
    have HRS := Lib.hid (fun z => spec_RaceRolls (l : Int) (by omega) (by omega) (f : Int) (by omega) (by omega) z)
    have HR0 := Lib.hid (fun z => impl_RaceRolls 0 (by omega) (by omega) (f : Int) (by omega) (by omega) z)
    obtain ⟨r1, r2, r3, r4, r5, r6, r7, r8, r9, r10, r11, r12, r13, r14⟩ := HR.out
    rw [r1] at HLL
    rw [r2] at HLO HLS
    rw [r3] at HRI HRS
    rw [r4, r13, r14] at HR0
    clear r1 r2 r3 r4 r13 r14 HR hf hl' ho hc hn
    generalize res_RaceChance (l : Int) (l : Int) (f : Int) = X at *
    generalize res2_RaceChance (l : Int) (l : Int) (f : Int) = Y at *
    generalize res_RaceChance (l : Int) (o : Int) (f : Int) = A at *
    generalize res2_RaceChance (l : Int) (o : Int) (f : Int) = B at *
    generalize res_RaceRolls (l : Int) (f : Int) = R at *
    generalize res2_RaceRolls (l : Int) (f : Int) = S at *
    obtain ⟨bf1, bf2⟩ := bf
    obtain ⟨bl1, bl2⟩ := bl
    obtain ⟨bo1, bo2⟩ := bo
    obtain ⟨bc1, bc2⟩ := bc
    obtain ⟨bn1, bn2⟩ := bn
    have ls : (l : Int) * S ≤ 6000000000000000 ∧ 0 ≤ (l : Int) * S := ⟨Int.le_trans (Int.mul_le_mul_of_nonneg_right (show (l : Int) ≤ 6 by omega) (by omega)) (by omega), Int.mul_nonneg (by omega) (by omega)⟩
    obtain ⟨ls1, ls2⟩ := ls
    have nA : (A != A) = false := by simp
    have nB : (B != B) = false := by simp
    have nR : (R != R) = false := by simp
    have nS : (S != S) = false := by simp
    have q1 : decide (2 * X < Y) = false := decide_eq_false (by omega)
    have q2 : decide (Y < X) = false := decide_eq_false (by omega)
    have q3 : decide (R < S) = false := decide_eq_false (by omega)
    have q4 : decide ((l : Int) * S < R) = false := decide_eq_false (by omega)
    go_enter Try.func5, Try.ntmps5
    go_wp2_with fail
    refine HL.out.mono ?_
    rintro e w' ⟨rfl, rfl⟩
    go_wp2_with fail
    refine (H0.out _ (Below.refl _ _)).mono ?_
    rintro e w' ⟨rfl, rfl⟩
    go_wp2_with fail
    rw [EF.out]
    refine (H1.out _ (Below.refl _ _)).mono ?_
    rintro e w' ⟨rfl, rfl⟩
    go_wp2_with fail
    rw [EL.out]
    refine (HLL.out _).mono ?_
    rintro e w1 ⟨rfl, hb1⟩
    have Hb1 := Lib.hid hb1
    clear hb1
    go_wp2_with fail
    refine (H2.out _ Hb1.out).mono ?_
    rintro e w' ⟨rfl, rfl⟩
    go_wp2_with fail
    rw [EO.out]
    refine (HLO.out _).mono ?_
    rintro e w2 ⟨rfl, hb2⟩
    have Hb2 := Lib.hid (Hb1.out.trans (hb2.mono Hb1.out.size))
    clear hb2 Hb1
    go_wp2_with fail
    refine (H2.out _ Hb2.out).mono ?_
    rintro e w' ⟨rfl, rfl⟩
    go_wp2_with fail
    rw [EO.out]
    refine (HLS.out _).mono ?_
    rintro e w3 ⟨rfl, hb3⟩
    have Hb3 := Lib.hid (Hb2.out.trans (hb3.mono Hb2.out.size))
    clear hb3 Hb2
    go_wp2_with fail
    refine (HRI.out _).mono ?_
    rintro e w4 ⟨rfl, hb4⟩
    have Hb4 := Lib.hid (Hb3.out.trans (hb4.mono Hb3.out.size))
    clear hb4 Hb3
    go_wp2_with fail
    refine (HRS.out _).mono ?_
    rintro e w5 ⟨rfl, hb5⟩
    have Hb5 := Lib.hid (Hb4.out.trans (hb5.mono Hb4.out.size))
    clear hb5 Hb4
    go_wp2_with fail
    refine (HR0.out _).mono ?_
    rintro e w6 ⟨rfl, hb6⟩
    have Hb6 := Lib.hid (Hb5.out.trans (hb6.mono Hb5.out.size))
    clear hb6 Hb5
    go_wp2_with fail
    refine (H3.out _ Hb6.out).mono ?_
    rintro e w' ⟨rfl, rfl⟩
    clear HLL HLO HLS HRI HRS HR0 nA nB nR nS q1 q2 q3 q4 r5 r6 r7 r8 r9 r10 r11 r12 ls1 ls2 HL H0 H1 H2 H3
    go_wp2_with fail
    rw [EC.out]
    have hown0 := own_zeroR w6 w.heap.size 2 Hb6.out.size
    have hbl0 : Below w.heap.size w (w6.alloc (.cells #[] 2)) := Hb6.out.alloc Hb6.out.size _
    generalize w6.alloc (.cells #[] 2) = w7 at *
    have Hown0 := Lib.hid hown0
    have Hbl0 := Lib.hid hbl0
    clear hown0 hbl0
    obtain ⟨i0, hi, hz0, hz1, hz2⟩ := info_parts (show (Try.prog.info? 2).map (fun i => (i.zero, i.size, i.bytes)) = some (some (Value.int .i64 0), 1, 8) by kernel_rfl)
    have HPL0 := Lib.hid (show pnL fs c 0 = [] by unfold pnL; rw [Nat.zero_mul]; rfl)
    have HPLs := Lib.hid (fun k => pnL_succ fs c k (by omega))
    go_loopw [26, 27] (fun p i wr => ∃ k : Nat, k ≤ n ∧ i = .int .i64 (k : Int) ∧ Hid (wr.ownsRow w.heap.size 2 1 p (k * c) ((pnL fs c k).map (Value.int .i64))) ∧ Hid (Below w.heap.size w wr)) (fun _ i _ => n - (intOf i).toNat)
    case atStart => exact ⟨0, Nat.zero_le _, rfl, Lib.hid (by rw [HPL0.out, Nat.zero_mul]; exact Hown0.out), Hbl0⟩
    case round =>
      obtain ⟨k, hk, rfl, hP, hW⟩ := hrel
      have hwz := hW.out.size
      go_wp2_with fail
      refine (H4.out _ hW.out).mono ?_
      rintro e w' ⟨rfl, rfl⟩
      by_cases hlt : k < n
      · clear Hown0 Hbl0 HPL0
        have d4 : decide ((k : Int) < 1 + (n0 : Int)) = true := decide_eq_true (by have := EN.out; omega)
        go_wp2_with (at_make; refine wpList_make_full _ rfl _ _ 22 rfl wr.heap.size 2 i0 (.int .i64 0) 1 (by kernel_rfl) hi hz0 hz1 .i64 .i64 c c c rfl rfl rfl rfl (by rw [hz2]; omega) (by unfold maxLen; omega) (Nat.le_refl _) ?_; intro w8 hrow hgrow)
        rw [zerosC] at hrow
        have hb8 : Below wr.heap.size wr w8 := (Below.refl _ _).grown hgrow (Nat.le_refl _) (by simp)
        have hN0 := Sw.of_owns (d := 0) hrow (tab_len _ _)
        rw [tab_congr (h := fun t => if t < 0 then pnG fs c k t else 0) (fun j _ => (if_neg (by omega)).symm)] at hN0
        have HN0 := Lib.hid hN0
        have HB8 := Lib.hid hb8
        clear hrow hgrow hb8 hN0
        obtain ⟨wo, rfl⟩ : ∃ z, z = wr := ⟨_, rfl⟩
        go_loopw [29] (fun i wi => ∃ J : Nat, J ≤ c + 1 ∧ i = .int .i64 (J : Int) ∧ Hid (J % 2 = 0) ∧ Hid (Sw (Value.int .i64) 0 wi (.slice (some ⟨wo.heap.size, 0, none⟩) c c) (tab c (fun t => if t < J then pnG fs c k t else 0)) wo.heap.size w8.heap.size) ∧ Hid (Below wo.heap.size wo wi)) (fun i _ => c + 2 - (intOf i).toNat)
        case atStart => exact ⟨0, by omega, rfl, Lib.hid rfl, HN0, HB8⟩
        case round =>
          obtain ⟨J, hJ, rfl, hJ2, hS, hB⟩ := hrel
          by_cases hlj : J + 1 < c
          · have hx := b10V_lt fs (8 * k + J) 3 (by omega)
            have E8 := Lib.hid (show (8 : Int) * (k : Int) + (J : Int) = ((8 * k + J : Nat) : Int) by omega)
            have hbz := hB.out.size
            have HC := Lib.hid (HB.out wr (hW.out.trans (hB.out.mono hwz)) k J (by omega))
            have hX : pnX fs k J = ((b10V fs (8 * k + J) 3 : Nat) : Int) - 1 := rfl
            have HX := Lib.hid hX
            have s1 := hS.out.store J (by rw [tab_len]; omega) (pnX fs k J)
            have s2 := s1.store (J + 1) (by rw [List.length_set, tab_len]; omega) (-pnX fs k J)
            rw [row_step fs c k J hJ2.out hlj] at s2
            obtain ⟨_, _, e5, _, _, k1, k2⟩ := hS.out.open' J (by rw [tab_len]; omega)
            cases e5
            obtain ⟨_, _, e5, _, _, k3, k4⟩ := hS.out.open' (J + 1) (by rw [tab_len]; omega)
            cases e5
            rw [hX] at s2
            rw [Nat.zero_add] at k1 k2 k3 k4 s2
            rw [Nat.zero_add] at s2
            have HS2 := Lib.hid s2
            clear hX s1 s2
            generalize b10V fs (8 * k + J) 3 = x at *
            go_wp2_with fail
            rw [E8.out]
            refine HC.out.mono ?_
            rintro e w' ⟨rfl, rfl⟩
            go_wp2
            go_roundw
            case rel => exact ⟨J + 2, by omega, by go_num, Lib.hid (by have := hJ2.out; omega), HS2, Lib.hid ((hB.out.setCell (Nat.le_refl _) _).setCell (Nat.le_refl _) _)⟩
            case measure => simp [intOf]; omega
          · have hd := row_done fs c k J hJ2.out hlj
            have hS2 := hS.out
            rw [hd] at hS2
            have hnews := news_row hS2.sl
            have HownP := Lib.hid (own_laterC hP.out hB.out)
            have HBP := Lib.hid (hW.out.trans (hB.out.mono hwz))
            have hbz := hB.out.size
            have hkc : k * c ≤ 24 := Nat.le_trans (Nat.mul_le_mul (show k ≤ 3 by omega) bc2) (by omega)
            have hpl := HPLs.out k
            have dJ : decide ((J : Int) + 1 < (c : Int)) = false := decide_eq_false (by omega)
            clear hd hS2 hS hB hP HPLs
            go_wp2_with (at_builtin; refine wpList_append_own _ rfl _ _ 22 rfl w.heap.size 2 i0 (.int .i64 0) 1 8 (by kernel_rfl) hi hz0 hz1 hz2 rfl (by decide) _ _ _ rfl HownP.out ⟨wo.heap.size, 0, none⟩ c c ((tab c (pnG fs c k)).map (Value.int .i64)) rfl (by simp [tab_len]) hnews (ones_int _) (by unfold maxLen; omega) (by omega) (by omega) ?_; intro v' w9 hown' hgrow' hne2; clear hne2)
            have HN : Hid (w9.ownsRow w.heap.size 2 1 v' ((k + 1) * c) ((pnL fs c (k + 1)).map (Value.int .i64))) := Lib.hid (by rw [hpl, List.map_append, Nat.succ_mul]; exact hown')
            have HB9 := Lib.hid (HBP.out.grown hgrow' (by omega) (fun b hb => (HownP.out.lt b hb).1))
            clear hown' hgrow' hnews hpl
            go_roundw
            case rel => exact ⟨k + 1, by omega, by go_num, HN, HB9⟩
            case measure => simp [intOf]; omega
      · obtain rfl : k = n := by omega
        have d4 : decide ((k : Int) < 1 + (n0 : Int)) = false := decide_eq_false (by have := EN.out; omega)
        have hsl := (Sw.of_owns (d := 0) hP.out (pnL_len fs c k)).sl
        have ht := HX5.out (c + 1) (by omega)
        have H5 := Lib.hid (fun z hz => HA.out z hz 5 (c + 1) (by omega) (by omega) (by omega))
        generalize b10V gs 5 (c + 1) = t at *
        obtain ⟨pp, cp, e26, -⟩ := id hsl
        rw [pnL_len] at e26
        subst e26
        have hW' := hW.out
        clear hP HPLs HPL0 Hown0 Hbl0
        go_upto_region 26 with fail
        exact stageR fs v v2 c k t pp cp w _ _ _ _ _ _ _ _ _ _ _ _ _ _ _ _ _ _ _ _ _ _ _ _ _ _ _ _ _ _ _ _ _ _ _ _ _ _ _ _ _ _ _ _ _ _ _ _ _ _ _ _ _ _ _ _ _ _ _ _ _ _ _ _ _ _ _ _ _ _ _ _ _ _ _ _ _ _ _ _ _ _ _ _ _ _ _ _ _ _ _ _ _ _ _ _ _ _ _ _ _ _ _ _ _ _ _ _ _ _ _ _ _ _ _ _ _ _ _ _ _ _ _ _ _ _ _ _ _ _ _ _ _ _ _ _ _ _ _ _ _ _ _ _ _ _ _ _ _ _ _ _ _ _ _ _ _ _ _ _ _ _ _ _ _ _ _ _ _ _ _ _ _ _ _ _ _ _ _ _ _ _ _ _ _ _ _ _ _ _ _ _ _ _ _ _ _ _ _ _ _ _ _ _ _ _ _ _ _ _ _ _ _ _ _ _ _ _ _ _ _ _ _ _ _ _ _ _ _ _ _ _ _ _ _ _ _ _ _ _ _ _ _ _ _ _ _ _ _ _ _ _ _ _ _ _ _ _ _ _ _ _ _ _ _ _ _ _ _ _ _ _ _ _ _ _ _ _ _ _ _ _ _ _ _ _ _ _ _ _ _ _ _ _ _ _ _ _ _ _ _ _ _ _ _ _ _ (by assumption) hW' hsl bc1 bc2 bn1 bn2 ht H5
end Go.Proofs.Ytodmaomngpnboaa
