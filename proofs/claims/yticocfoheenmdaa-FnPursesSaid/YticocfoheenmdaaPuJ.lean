/- The law of purses: streaks. -/
import Derived.Test.YticocfoheenmdaaWk
import Derived.Test.YticocfoheenmdaaWo
import Derived.Test.YticocfoheenmdaaVd
import Derived.Test.YticocfoheenmdaaQh
import Derived.Test.YticocfoheenmdaaQk
import Derived.Test.YticocfoheenmdaaQe
import Derived.Test.YticocfoheenmdaaHpD
import Derived.Test.YticocfoheenmdaaVg
set_option linter.unusedVariables false
namespace Go.Proofs.Yticocfoheenmdaa
open Go.RowKit Fl Ieee

theorem sumA_sc (g : Nat → Int) (N : Nat) : sumA g (N + 1) = sumA g N + g N := rfl
theorem sumA_shift (g : Nat → Int) : ∀ m, sumA g (m + 1) = g 0 + sumA (fun k => g (k + 1)) m
  | 0 => by show (0 : Int) + g 0 = g 0 + 0; omega
  | m + 1 => by
    rw [sumA_sc, sumA_shift g m, sumA_sc]
    omega
theorem sumA_cg (g h : Nat → Int) : ∀ m, (∀ k, k < m → g k = h k) → sumA g m = sumA h m
  | 0, _ => rfl
  | m + 1, e => by rw [sumA_sc, sumA_sc, sumA_cg g h m (fun k hk => e k (by omega)), e m (by omega)]
theorem nxS_first (n i : Nat) : ∀ k, k ≤ n → nxS n i k 0 = sumA (fun k => rwI (onesL n) 2 n i (k : Int)) k
  | 0, _ => nxS_zero n i 0
  | k + 1, h => by
    rw [nxS_step n i k (by omega), nxS_first n i k (by omega), sumA_sc, if_pos rfl, if_neg (by omega)]
    omega
theorem nxS_next (n i j : Nat) : ∀ k, k ≤ n → nxS n i k ((j : Int) + 1) = if j < k then rwI (onesL n) 2 n i (j : Int) else 0
  | 0, _ => by rw [nxS_zero, if_neg (by omega)]
  | k + 1, h => by
    rw [nxS_step n i k (by omega), nxS_next n i j k (by omega), if_neg (show ¬ ((j : Int) + 1 = 0) by omega)]
    by_cases e : j = k
    · subst e
      rw [if_neg (by omega), if_pos rfl, if_pos (by omega)]; omega
    · rw [if_neg (show ¬ ((j : Int) + 1 = (k : Int) + 1) by omega)]
      by_cases e2 : j < k
      · rw [if_pos e2, if_pos (by omega)]; omega
      · rw [if_neg e2, if_neg (by omega)]; rfl
theorem rw_fst1 (n i : Nat) (h : 0 < n) : rwI (onesL n) 2 n (i + 1) 0 = sumA (fun k => rwI (onesL n) 2 n i (k : Int)) n := by
  rw [← nxS_first n i n (Nat.le_refl _)]
  exact (nxS_all n i 0 h).symm
theorem rw_nx1 (n i j : Nat) (h : j + 1 < n) : rwI (onesL n) 2 n (i + 1) ((j : Int) + 1) = rwI (onesL n) 2 n i (j : Int) := by
  have := nxS_all n i (j + 1) h
  rw [show ((j + 1 : Nat) : Int) = (j : Int) + 1 by omega] at this
  rw [← this, nxS_next n i j n (Nat.le_refl _), if_pos (by omega)]
theorem rw_diag1 (n : Nat) : ∀ i, i < n → rwI (onesL n) 2 n i (i : Int) = 1
  | 0, _ => rfl
  | i + 1, h => by
    rw [show ((i + 1 : Nat) : Int) = (i : Int) + 1 by omega, rw_nx1 n i i h]
    exact rw_diag1 n i (by omega)
theorem fewer_one : ∀ T, fewer T 1 = 1
  | 0 => rfl
  | T + 1 => by
    have h := fewer_one T
    unfold fewer at h ⊢
    rw [sumA_sc]
    show (0 : Int) + rwI (onesL 1) 2 1 (T + 1) 0 = 1
    rw [rw_fst1 1 T (by omega), h]; rfl
theorem fewer_self (T : Nat) (h : 1 ≤ T) : fewer T T = pwI 2 T - 1 := by
  obtain ⟨m, rfl⟩ : ∃ m, T = m + 1 := ⟨T - 1, by omega⟩
  have h1 := rw_full (onesL (m + 1)) 2 (m + 1) m (by omega)
  have h2 := rw_diag1 (m + 1) m (by omega)
  unfold fewer
  rw [sumA_shift]
  have e1 : rwI (onesL (m + 1)) 2 (m + 1) (m + 1) ((0 : Nat) : Int) = pwI 2 m := by
    show _ = pwI ((2 : Nat) : Int) m
    rw [← h1]; exact rw_fst1 (m + 1) m (by omega)
  have e2 : sumA (fun k => rwI (onesL (m + 1)) 2 (m + 1) (m + 1) ((k + 1 : Nat) : Int)) m = sumA (fun k => rwI (onesL (m + 1)) 2 (m + 1) m (k : Int)) m := sumA_cg _ _ _ fun k hk => by
    rw [show ((k + 1 : Nat) : Int) = (k : Int) + 1 by omega]
    exact rw_nx1 (m + 1) m k (by omega)
  rw [sumA_sc, h2] at h1
  rw [e1, e2]
  show pwI 2 m + _ = pwI 2 m * ((2 : Nat) : Int) - 1
  have h1' : sumA (fun k => rwI (onesL (m + 1)) 2 (m + 1) m (k : Int)) m + 1 = pwI ((2 : Nat) : Int) m := h1
  have h3 : pwI ((2 : Nat) : Int) m = pwI 2 m := rfl
  omega
theorem str_first (T : Nat) : strG T 0 = 1 := by
  unfold strG
  rw [fewer_one, fewer_none]; rfl
theorem str_last (T : Nat) (h : 1 ≤ T) : strG T T = 1 := by
  unfold strG
  rw [fewer_all, fewer_self T h]; omega
/-- sums of streaks: of the first k, and of those from l on -/
theorem str_sum (T : Nat) : ∀ k, sumI (strG T) k = fewer T k
  | 0 => (fewer_none T).symm
  | k + 1 => by
    show sumI (strG T) k + strG T k = _
    rw [str_sum T k]; unfold strG; omega
def fromI (g : Nat → Int) (l : Nat) : Nat → Int
  | 0 => 0
  | k + 1 => fromI g l k + (if l ≤ k then g k else 0)
theorem str_from (T l : Nat) : ∀ k, fromI (strG T) l k = if l ≤ k then fewer T k - fewer T l else 0
  | 0 => by
    show (0 : Int) = _
    split
    · rename_i h
      obtain rfl : l = 0 := by omega
      omega
    · rfl
  | k + 1 => by
    show fromI (strG T) l k + _ = _
    rw [str_from T l k]
    by_cases h : l ≤ k
    · rw [if_pos h, if_pos h, if_pos (by omega)]; unfold strG; omega
    · rw [if_neg h, if_neg h]
      by_cases h2 : l = k + 1
      · subst h2; rw [if_pos (Nat.le_refl _)]; omega
      · rw [if_neg (by omega)]; rfl
/-- coupons: rows as lists -/
def cpN (K : Nat) : Nat → List Nat
  | 0 => (List.range (K + 1)).map fun k => if k = 0 then 1 else 0
  | t + 1 => (List.range (K + 1)).map fun k => k * (cpN K t).getD k 0 + (if k = 0 then 0 else (K + 1 - k) * (cpN K t).getD (k - 1) 0)
theorem cpN_getD (n : Nat) (f : Nat → Nat) (k : Nat) (h : k < n) : ((List.range n).map f).getD k 0 = f k := by
  rw [List.getD, List.getElem?_map, List.getElem?_range h, Option.map_some, Option.getD_some]
theorem cpN_I (K : Nat) (hK : 1 ≤ K) : ∀ t k, k ≤ K → (((cpN K t).getD k 0 : Nat) : Int) = cpF (K : Int) t (k : Int)
  | 0, k, hk => by
    unfold cpN cpF
    rw [cpN_getD _ _ _ (by omega)]
    by_cases e : k = 0
    · rw [if_pos e, if_pos (by omega)]; rfl
    · rw [if_neg e, if_neg (by omega)]; rfl
  | t + 1, k, hk => by
    unfold cpN cpF
    rw [cpN_getD _ _ _ (by omega), Int.natCast_add, Int.natCast_mul, cpN_I K hK t k hk]
    by_cases e : k = 0
    · subst e
      rw [if_pos rfl, cp_zero (K : Int) (by omega) t ((0 : Nat) - 1 : Int) (.inl (by omega))]
      simp
    · rw [if_neg e, Int.natCast_mul, cpN_I K hK t (k - 1) (by omega), show ((k - 1 : Nat) : Int) = (k : Int) - 1 by omega, show ((K + 1 - k : Nat) : Int) = (K : Int) - ((k : Int) - 1) by omega]
def sumC (l : List Nat) : Nat → Nat
  | 0 => 0
  | n + 1 => sumC l n + l.getD n 0
theorem sumC_I (l : List Nat) (g : Nat → Int) (m : Nat) (h : ∀ k, k < m → ((l.getD k 0 : Nat) : Int) = g k) : ∀ n, n ≤ m → ((sumC l n : Nat) : Int) = sumI g n
  | 0, _ => rfl
  | n + 1, hn => by
    show ((sumC l n + l.getD n 0 : Nat) : Int) = sumI g n + g n
    rw [Int.natCast_add, sumC_I l g m h n (by omega), h n (by omega)]
theorem coup_tab : ∀ K, K < 10 → ∀ t, t < 14 → sumC (cpN (K + 1) t) (K + 2) = (K + 1) ^ t ∧ (K + 1) ^ t ≤ 10000000000000 := by decide +kernel
theorem pwI_nat (b : Nat) : ∀ t, pwI (b : Int) t = ((b ^ t : Nat) : Int)
  | 0 => rfl
  | t + 1 => by
    show pwI (b : Int) t * (b : Int) = _
    rw [pwI_nat b t, Nat.pow_succ, Int.natCast_mul]
theorem coup_sum (K t : Nat) (h1 : 1 ≤ K) (h2 : K ≤ 10) (ht : t < 14) : sumI (fun k => cpF (K : Int) t (k : Int)) (K + 1) = pwI (K : Int) t ∧ pwI (K : Int) t ≤ 10000000000000 := by
  obtain ⟨a, b⟩ := coup_tab (K - 1) (by omega) t ht
  rw [show K - 1 + 1 = K by omega, show K - 1 + 2 = K + 1 by omega] at *
  rw [← sumC_I (cpN K t) (fun k => cpF (K : Int) t (k : Int)) (K + 1) (fun k hk => cpN_I K h1 t k (by omega)) (K + 1) (Nat.le_refl _), a, pwI_nat]
  exact ⟨rfl, by omega⟩
theorem mean_tab : ∀ K : Nat, K < 10 → 1 ≤ res2_CouponMean ((K : Int) + 1) ∧ ((K : Int) + 1) * res2_CouponMean ((K : Int) + 1) ≤ res_CouponMean ((K : Int) + 1) ∧ res2_CouponMean ((K : Int) + 1) ≤ 10000000000 := by decide +kernel
def missB (K p : Nat) : Bool :=
  ok_BirthdayMiss (K : Int) (p : Int) && decide (1 ≤ res2_BirthdayMiss (K : Int) (p : Int)) && decide (res2_BirthdayMiss (K : Int) (p : Int) ≤ 1000000000) && decide (0 ≤ res_BirthdayMiss (K : Int) (p : Int)) && decide (res_BirthdayMiss (K : Int) (p : Int) ≤ 1000000000) &&
  (if p ≤ K then decide (res_BirthdayMiss (K : Int) (p : Int) * pwI (K : Int) p = res2_BirthdayMiss (K : Int) (p : Int) * ((cpN K p).getD p 0 : Nat)) && decide ((cpN K p).getD p 0 ≤ 1000000000) else decide (res_BirthdayMiss (K : Int) (p : Int) = 0))
theorem miss_tab : ∀ K, K < 10 → ∀ p, p < 9 → missB (K + 1) p = true := by decide +kernel
/-- the least number of people for whom a birthday is shared more likely than not, for d days -/
def leastT : List Nat := 2 :: 2 :: 3 :: 3 :: 3 :: 4 :: 4 :: 4 :: 4 :: 5 :: []

def seqN (d : Nat) : Nat → Nat
  | 0 => 4607182418800017408
  | k + 1 => fop .mul .f64 (seqN d k) (fop .quo .f64 (floatOfInt .f64 ((d : Int) - (k : Int))) (floatOfInt .f64 (d : Int)))
theorem seq_ok : ∀ d : Nat, d < 10 → ∀ k : Nat, k < 5 → floatBits .quo .f64 (floatOfInt .f64 (((d + 1 : Nat) : Int) - (k : Int))) (floatOfInt .f64 ((d + 1 : Nat) : Int)) = some (fop .quo .f64 (floatOfInt .f64 (((d + 1 : Nat) : Int) - (k : Int))) (floatOfInt .f64 ((d + 1 : Nat) : Int))) ∧ floatBits .mul .f64 (seqN (d + 1) k) (fop .quo .f64 (floatOfInt .f64 (((d + 1 : Nat) : Int) - (k : Int))) (floatOfInt .f64 ((d + 1 : Nat) : Int))) = some (seqN (d + 1) (k + 1)) := by decide +kernel
theorem seq_is (d : Nat) (hd : d < 10) : ∀ k, k < 6 → SeqF ((d + 1 : Nat) : Int) k (seqN (d + 1) k)
  | 0, _ => rfl
  | k + 1, h => by
    obtain ⟨h1, h2⟩ := seq_ok d hd k (by omega)
    exact ⟨_, _, seq_is d hd k (by omega), .inl h1, .inl h2⟩
theorem least_ok : ∀ d, d < 10 → leastT.getD d 0 < 6 ∧ 1 ≤ leastT.getD d 0 ∧ (∀ j, j < leastT.getD d 0 → gtH (seqN (d + 1) j) = true) ∧ gtH (seqN (d + 1) (leastT.getD d 0)) = false := by decide +kernel
theorem least_is (d : Nat) (hd : d < 10) : LeastR ((d + 1 : Nat) : Int) (leastT.getD d 0) := by
  obtain ⟨h0, _, h1, h2⟩ := least_ok d hd
  exact ⟨fun j hj => ⟨_, seq_is d hd j (by omega), h1 j hj⟩, _, seq_is d hd _ h0, h2⟩
theorem bday_any (d : Nat) (h1 : 1 ≤ d) (h2 : d ≤ 10) (w : World) : Calls Try.prog 20 #[.int .i64 (d : Int)] w fun e w' => e = .returned (.tuple #[.int .i64 ((leastT.getD (d - 1) 0 : Nat) : Int), .bool true]) ∧ Drawn w w' := by
  refine (least_impl d w h1 (by omega)).mono ?_
  rintro e w' ⟨n, rfl, hn, hd⟩
  have h := least_is (d - 1) (by omega)
  rw [show d - 1 + 1 = d by omega] at h
  rw [hn.same h]
  exact ⟨rfl, hd⟩
theorem bday_tab : ∀ d : Nat, d < 10 → 2 * res_BirthdayMiss ((d + 1 : Nat) : Int) (leastT.getD d 0 : Nat) ≤ res2_BirthdayMiss ((d + 1 : Nat) : Int) (leastT.getD d 0 : Nat) ∧ res2_BirthdayMiss ((d + 1 : Nat) : Int) ((leastT.getD d 0 - 1 : Nat) : Int) < 2 * res_BirthdayMiss ((d + 1 : Nat) : Int) ((leastT.getD d 0 - 1 : Nat) : Int) := by decide +kernel
/-- what the law asks of birthdays -/
theorem miss_facts {K p : Nat} (h1 : 1 ≤ K) (h2 : K ≤ 10) (h3 : p < 9) : ok_BirthdayMiss (K : Int) (p : Int) = true ∧ (1 ≤ res2_BirthdayMiss (K : Int) (p : Int) ∧ res2_BirthdayMiss (K : Int) (p : Int) ≤ 1000000000) ∧ (0 ≤ res_BirthdayMiss (K : Int) (p : Int) ∧ res_BirthdayMiss (K : Int) (p : Int) ≤ 1000000000) ∧
    (p ≤ K → res_BirthdayMiss (K : Int) (p : Int) * pwI (K : Int) p = res2_BirthdayMiss (K : Int) (p : Int) * cpF (K : Int) p (p : Int) ∧ 0 ≤ cpF (K : Int) p (p : Int) ∧ cpF (K : Int) p (p : Int) ≤ 1000000000) ∧ (K < p → res_BirthdayMiss (K : Int) (p : Int) = 0) := by
  have h := miss_tab (K - 1) (by omega) p h3
  rw [show K - 1 + 1 = K by omega] at h
  unfold missB at h
  simp only [Bool.and_eq_true, decide_eq_true_eq] at h
  obtain ⟨⟨⟨⟨⟨a, b⟩, c⟩, d⟩, e⟩, f⟩ := h
  refine ⟨a, ⟨b, c⟩, ⟨d, e⟩, fun hp => ?_, fun hp => ?_⟩
  · rw [if_pos hp] at f
    simp only [Bool.and_eq_true, decide_eq_true_eq] at f
    rw [cpN_I K h1 p p hp] at f
    have f2 := cpN_I K h1 p p hp
    exact ⟨f.1, by omega, by omega⟩
  · rw [if_neg (by omega)] at f
    exact of_decide_eq_true f

theorem sumI_le (g : Nat → Int) (n : Nat) (h : ∀ k, k < n → 0 ≤ g k) : ∀ m, m ≤ n → 0 ≤ sumI g m ∧ sumI g m + 0 ≤ sumI g n := by
  intro m hm
  have a1 : ∀ m, m ≤ n → 0 ≤ sumI g m := by
    intro m
    induction m with
    | zero => intro _; exact Int.le_refl _
    | succ m ih => intro hm; have := ih (by omega); have := h m (by omega); show 0 ≤ sumI g m + g m; omega
  have a2 : ∀ d m, m + d ≤ n → sumI g m ≤ sumI g (m + d) := by
    intro d
    induction d with
    | zero => intro m _; exact Int.le_refl _
    | succ d ih => intro m hm; have := ih m (by omega); have := h (m + d) (by omega); show sumI g m ≤ sumI g (m + d) + g (m + d); omega
  have := a2 (n - m) m (by omega)
  rw [show m + (n - m) = n by omega] at this
  exact ⟨a1 m hm, by omega⟩
theorem pw_tab : ∀ K : Nat, K < 11 → ∀ t : Nat, t < 15 → 0 ≤ pwI (K : Int) t ∧ pwI (K : Int) t ≤ 100000000000000 := by decide +kernel
theorem cp_nonneg (K t k : Nat) (hK : 1 ≤ K) (hk : k ≤ K) : 0 ≤ cpF (K : Int) t (k : Int) := by rw [← cpN_I K hK t k hk]; omega
theorem two_tab : ∀ T : Nat, T < 42 → pwI 2 T = ((2 ^ T : Nat) : Int) ∧ pwI 2 T ≤ 4398046511104 := by decide +kernel
open Go.RowKit
attribute [local go_sem] Oper.semAt_some


def tailN : Nat → Code → Code
  | 0, c => c
  | n + 1, .seq _ b => tailN n b
  | _ + 1, c => c
def headN (n : Nat) (c : Code) : Code := match tailN n c with
  | .seq a _ => a
  | c => c
noncomputable def fnBody : Code := (Try.f4.body).getD .skip

set_option maxRecDepth 1000000 in
set_option maxHeartbeats 16000000 in
theorem stageD (v v2 : Value) (J p : Nat) (w wr : World) (s2 s3 s4 s5 s6 s7 s8 s9 s10 s11 s12 s13 s14 s15 s16 s17 s18 s19 s20 s21 s22 s23 s24 s25 s26 s27 s28 s29 s30 s31 s32 s33 s35 s36 s37 s38 s39 s40 s41 s42 s43 s44 s45 s46 s47 s48 s49 s50 s51 s52 s53 s54 s55 s56 s57 s58 s59 s60 s61 s62 s63 s64 s65 s66 s67 s68 s69 s70 s71 s72 s73 s74 s75 s76 s77 s78 s79 s80 s81 s82 s83 s84 s85 s86 s87 s88 s89 s90 s91 s92 s93 s94 s95 s96 s97 s98 s99 s100 s101 s102 s103 s104 s105 s106 s107 s108 s109 s110 s111 s112 s113 s114 s115 s116 s117 s118 s119 s120 s121 s122 s123 s124 s125 s126 s127 s128 s129 s130 s131 s132 s133 s134 s135 s136 s137 s138 s139 s140 s141 s142 s143 s144 s145 s146 s147 s148 s149 s150 s151 s152 s153 s154 s155 s156 s157 s158 s159 s160 s161 s162 s163 s164 s165 s166 s167 s168 s169 s170 s171 s172 s173 s174 s175 s176 s177 s178 s179 s180 s181 s182 s183 s184 s185 s186 s187 s188 s189 s190 s191 s192 s193 s194 s195 s196 s197 s198 s199 s200 s201 s202 s203 s204 s205 s206 s207 s208 s209 s210 s211 s212 s213 s214 s215 s216 s217 s218 s219 s220 s221 s222 s223 s224 s225 s226 s227 s228 s229 s230 s231 s232 s233 s234 s235 s236 s237 s238 s239 s240 s241 s242 s243 s244 s245 s246 s247 s248 s249 s250 s251 s252 s253 s254 s255 s256 s257 s258 s259 s260 s261 s262 s263 s264 s265 s266 s267 s268 s269 s270 s271 s272 s273 s274 s275 s276 s277 s278 s279 s280 s281 s282 s283 s284 s285 s286 s287 s288 s289 s290 s291 s292 s293 s294 s295 s296 s297 s298 s299 s300 s301 s302 s303 s304 s305 s306 s307 s308 s309 s310 s311 s312 s313 s314 s315 s316 s317 s318 s319 s320 s321 s322 s323 s324 s325 s326 s327 s328 s329 s330 s331 s332 s333 s334 s335 s336 s337 s338 s339 s340 s341 s342 s343 s344 s345 s346 s347 s348 s349 s350 s351 s352 s353 s354 s355 s356 s357 s358 s359 s360 s361 s362 s363 s364 s365 s366 s367 s368 s369 s370 s371 s372 s373 s374 s375 s376 s377 s378 s379 s380 s381 s382 s383 s384 s385 s386 s387 s388 s389 s390 s391 s392 s393 s394 s395 s396 s397 s398 s399 s400 s401 s402 s403 s404 s405 s406 s407 s408 s409 s410 s411 s412 s413 s414 s415 s416 s417 s418 s419 s420 s421 s422 s423 s424 s425 s426 s427 s428 s429 s430 s431 s432 s433 s434 s435 s436 s437 s438 s439 s440 s441 s442 s443 s444 s445 s446 s447 s448 s449 s450 s451 s452 s453 s454 s455 s456 s457 s458 s459 s460 s461 s462 s463 s464 s465 s466 s467 s468 s469 s470 s471 s472 s473 s474 s475 s476 s477 s478 s479 : Value) (K : Act → World → Prop)
    (hK : ∀ a z, Code.wp Try.prog (tailN 38 fnBody) (bodyPost Try.prog Try.f4 fun e w' => e = Ending.returned (Value.bool true) ∧ Below w.heap.size w w') a z → K a z)
    (hW : Below w.heap.size w wr) (hK1 : 1 ≤ J) (hK2 : J ≤ 10) (hp : p < 9)
    (H1 : Hid (∀ z, Below w.heap.size w z → Calls Try.prog 11 #[v, .int .i64 ((1 : Nat) : Int), .int .i64 ((9 : Nat) : Int)] z fun e w' => e = .returned (.int .i64 ((p : Nat) : Int)) ∧ z = w')) :
    Code.wp Try.prog (headN 37 fnBody) (Exit.then K (bodyPost Try.prog Try.f4 fun e w' => e = Ending.returned (Value.bool true) ∧ Below w.heap.size w w')) ⟨#[v, v2, s2, s3, s4, s5, s6, s7, s8, s9, s10, s11, s12, s13, s14, s15, s16, s17, s18, s19, s20, s21, s22, s23, s24, s25, s26, s27, s28, s29, s30, s31, s32, s33, .int .i64 (J : Int), s35, s36, s37, s38, s39, s40, s41, s42, s43, s44, s45, s46, s47, s48, s49, s50, s51, s52, s53, s54, s55, s56, s57, s58, s59, s60, s61, s62, s63, s64, s65, s66, s67, s68, s69, s70, s71, s72, s73, s74, s75, s76, s77, s78, s79, s80, s81, s82, s83, s84, s85, s86, s87, s88, s89, s90, s91, s92, s93, s94, s95, s96, s97, s98, s99, s100, s101, s102, s103, s104, s105, s106, s107, s108, s109, s110, s111, s112, s113, s114, s115, s116, s117, s118, s119, s120, s121, s122, s123, s124, s125, s126, s127, s128, s129, s130, s131, s132, s133, s134, s135, s136, s137, s138, s139, s140, s141, s142, s143, s144, s145, s146, s147, s148, s149, s150, s151, s152, s153, s154, s155, s156, s157, s158, s159, s160, s161, s162, s163, s164, s165, s166, s167, s168, s169, s170, s171, s172, s173, s174, s175, s176, s177, s178, s179, s180, s181, s182, s183, s184, s185, s186, s187, s188, s189, s190, s191, s192, s193, s194, s195, s196, s197, s198, s199, s200, s201, s202, s203, s204, s205, s206, s207, s208, s209, s210, s211, s212, s213, s214, s215, s216, s217, s218, s219, s220, s221, s222, s223, s224, s225, s226, s227, s228, s229, s230, s231, s232, s233, s234, s235, s236, s237, s238, s239, s240, s241, s242, s243, s244, s245, s246, s247, s248, s249, s250, s251, s252, s253, s254, s255, s256, s257, s258, s259, s260, s261, s262, s263, s264, s265, s266, s267, s268, s269, s270, s271, s272, s273, s274, s275, s276, s277, s278, s279, s280, s281, s282, s283, s284, s285, s286, s287, s288, s289, s290, s291, s292, s293, s294, s295, s296, s297, s298, s299, s300, s301, s302, s303, s304, s305, s306, s307, s308, s309, s310, s311, s312, s313, s314, s315, s316, s317, s318, s319, s320, s321, s322, s323, s324, s325, s326, s327, s328, s329, s330, s331, s332, s333, s334, s335, s336, s337, s338, s339, s340, s341, s342, s343, s344, s345, s346, s347, s348, s349, s350, s351, s352, s353, s354, s355, s356, s357, s358, s359, s360, s361, s362, s363, s364, s365, s366, s367, s368, s369, s370, s371, s372, s373, s374, s375, s376, s377, s378, s379, s380, s381, s382, s383, s384, s385, s386, s387, s388, s389, s390, s391, s392, s393, s394, s395, s396, s397, s398, s399, s400, s401, s402, s403, s404, s405, s406, s407, s408, s409, s410, s411, s412, s413, s414, s415, s416, s417, s418, s419, s420, s421, s422, s423, s424, s425, s426, s427, s428, s429, s430, s431, s432, s433, s434, s435, s436, s437, s438, s439, s440, s441, s442, s443, s444, s445, s446, s447, s448, s449, s450, s451, s452, s453, s454, s455, s456, s457, s458, s459, s460, s461, s462, s463, s464, s465, s466, s467, s468, s469, s470, s471, s472, s473, s474, s475, s476, s477, s478, s479], []⟩ wr := by
  conv at hK => enter [a, z, 1, 2]; whnf
  conv => arg 2; whnf
  have hwz := hW.size
  obtain ⟨m1, ⟨m2, m3⟩, ⟨m4, m5⟩, m6, m7⟩ := miss_facts hK1 hK2 hp
  have HM := Lib.hid (fun z => impl_BirthdayMiss (J : Int) (by omega) (by omega) (p : Int) (by omega) (by omega) z)
  rw [m1] at HM
  have HC := Lib.hid (fun z => impl_CouponCounts (J : Int) (by omega) (by omega) (p : Int) (by omega) (by omega) z)
  have hcc : okCC (J : Int) (p : Int) := by unfold okCC; omega
  have e1 : ok_CouponCounts (J : Int) (p : Int) = true := decide_eq_true hcc
  have e2 : res_CouponCounts (J : Int) (p : Int) = tab (J + 1) (fun k => cpF (J : Int) p (k : Int)) := by
    unfold res_CouponCounts
    rw [if_pos hcc, Int.toNat_natCast, Int.toNat_natCast]
  rw [e1, e2] at HC
  obtain ⟨s', hs'⟩ : ∃ s', leastT.getD (J - 1) 0 = s' + 1 := ⟨leastT.getD (J - 1) 0 - 1, by have := (least_ok (J - 1) (by omega)).2.1; omega⟩
  have hs5 : s' < 5 := by have := (least_ok (J - 1) (by omega)).1; omega
  have HB := Lib.hid (fun z => bday_any J hK1 hK2 z)
  obtain ⟨b1, b2⟩ := bday_tab (J - 1) (by omega)
  rw [show J - 1 + 1 = J by omega, hs'] at b1 b2
  rw [show s' + 1 - 1 = s' by omega] at b2
  rw [hs'] at HB
  obtain ⟨s, hs⟩ : ∃ s, s = s' + 1 := ⟨_, rfl⟩
  rw [← hs] at HB b1
  have Es := Lib.hid (show (s : Int) - 1 = (s' : Int) by omega)
  have hs1 : 1 ≤ s := by omega
  have hs6 : s ≤ 5 := by omega
  obtain ⟨n1, ⟨n2, n3⟩, ⟨n4, n5⟩, -, -⟩ := miss_facts (p := s) hK1 hK2 (by omega)
  obtain ⟨o1, ⟨o2, o3⟩, ⟨o4, o5⟩, -, -⟩ := miss_facts (p := s') hK1 hK2 (by omega)
  have HM2 := Lib.hid (fun z => impl_BirthdayMiss (J : Int) (by omega) (by omega) (s : Int) (by omega) (by omega) z)
  rw [n1] at HM2
  have HM3 := Lib.hid (fun z => impl_BirthdayMiss (J : Int) (by omega) (by omega) (s' : Int) (by omega) (by omega) z)
  rw [o1] at HM3
  have HT := Lib.hid (fun t (ht : t < 15) => pw_tab J (by omega) t ht)
  have HP0 := Lib.hid (show pwI (J : Int) 0 = 1 from rfl)
  have HPs := Lib.hid (fun t => show pwI (J : Int) (t + 1) = pwI (J : Int) t * (J : Int) from rfl)
  clear m1 n1 o1 hcc e1 e2 hs hs'
  generalize res_BirthdayMiss (J : Int) (p : Int) = U at *
  generalize res2_BirthdayMiss (J : Int) (p : Int) = V at *
  generalize res_BirthdayMiss (J : Int) (s : Int) = U2 at *
  generalize res2_BirthdayMiss (J : Int) (s : Int) = V2 at *
  generalize res_BirthdayMiss (J : Int) (s' : Int) = U3 at *
  generalize res2_BirthdayMiss (J : Int) (s' : Int) = V3 at *
  generalize pwI (J : Int) = PW at *
  have hpb := HT.out p (by omega)
  have M6 := Lib.hid m6
  have M7 := Lib.hid m7
  clear m6 m7
  go_wp2_with fail
  refine (H1.out _ hW).mono ?_
  rintro e w' ⟨rfl, rfl⟩
  go_wp2_with fail
  refine (HM.out _).mono ?_
  rintro e w1 ⟨rfl, hb1⟩
  have HB1 := Lib.hid (hW.trans (hb1.mono hwz))
  clear hb1 HM
  go_wp2_with fail
  refine (HC.out _).mono ?_
  rintro e w2 ⟨r2, rfl, h2, hb2⟩
  have HB2 := Lib.hid (HB1.out.trans (hb2.mono HB1.out.size))
  obtain ⟨q2, c2, rfl, hx⟩ := h2.sl
  rw [tab_len] at hx ⊢
  obtain ⟨hcap, bq, oq, rfl, hbq, hcell⟩ := hx (by omega)
  have HCL := Lib.hid hcell
  clear h2 hb2 hx hcell HC HB1
  go_wp2_with fail
  obtain ⟨wo, rfl⟩ : ∃ z, z = w2 := ⟨_, rfl⟩
  go_loopw [51, 52] (fun d i wz => ∃ t : Nat, t ≤ p ∧ d = .int .i64 (PW t) ∧ i = .int .i64 (t : Int) ∧ Hid (wz = wo)) (fun _ i _ => p - (intOf i).toNat)
  case atStart => exact ⟨0, Nat.zero_le _, by rw [HP0.out], rfl, Lib.hid rfl⟩
  case round =>
    obtain ⟨t, ht, rfl, rfl, hw⟩ := hrel
    obtain rfl := hw.out
    by_cases hlt : t < p
    · have HE := Lib.hid (HPs.out t)
      have hbd := HT.out (t + 1) (by omega)
      rw [HE.out] at hbd
      obtain ⟨hbd0, hbd1⟩ := hbd
      clear hpb HPs HT HCL M6 M7
      generalize PW t = Pt at *
      go_wp2
      go_roundw
      case rel => exact ⟨t + 1, by omega, by rw [HE.out], by go_num, Lib.hid (by first | trivial | rfl)⟩
      case measure => simp [intOf]; omega
    · obtain rfl : t = p := by omega
      have dv : decide (V < 1) = false := decide_eq_false (by omega)
      have du2 : decide (2 * U2 ≤ V2) = true := decide_eq_true b1
      have du3 : decide (V3 < 2 * U3) = true := decide_eq_true b2
      obtain ⟨hp0, hp1⟩ := hpb
      by_cases hle : t ≤ J
      · obtain ⟨g1, g2, g3⟩ := M6.out hle
        have cM := HCL.out t (by omega)
        rw [tab_get _ _ _ (by omega)] at cM
        generalize cpF (J : Int) t (t : Int) = M at *
        have dle : decide (t ≤ J) = true := decide_eq_true hle
        have dgt : decide (J < t) = false := decide_eq_false (by omega)
        generalize PW t = Pt at *
        have k1 : 0 ≤ U * Pt := Int.mul_nonneg m4 hp0
        have k2 : 0 ≤ V * M := Int.mul_nonneg (by omega) g2
        have k3 : V * M ≤ 1000000000000000000 := Int.le_trans (Int.mul_le_mul m3 g3 g2 (by omega)) (by omega)
        have k4 : U * Pt ≤ 1000000000000000000 := by rw [g1]; exact k3
        have nq : (U * Pt != V * M) = false := by rw [g1]; simp
        have nq2 : (U * Pt = V * M) = True := eq_true g1
        have HG1 := Lib.hid g1
        clear HCL M6 M7 g1 HPs HT HP0
        go_wp2_with fail
        refine (HB.out _).mono ?_
        rintro e w3 ⟨rfl, hd3⟩
        have HB3 := Lib.hid (HB2.out.trans (hd3.below _))
        clear hd3
        go_wp2_with fail
        refine (HM2.out _).mono ?_
        rintro e w4 ⟨rfl, hb4⟩
        have HB4 := Lib.hid (HB3.out.trans (hb4.mono HB3.out.size))
        clear hb4
        go_upto_region 78 with fail
        go_wp2_with fail
        rw [Es.out]
        (with_reducible refine (HM3.out _).mono ?_)
        rintro e w5 ⟨rfl, hb5⟩
        have HB5 := Lib.hid (HB4.out.trans (hb5.mono HB4.out.size))
        clear hb5
        go_wp2
        go_ret
        exact ⟨rfl, HB5.out⟩
      · have hu0 := M7.out (by omega)
        subst hu0
        have dle : decide (t ≤ J) = false := decide_eq_false hle
        have dgt : decide (J < t) = true := decide_eq_true (by omega)
        generalize PW t = Pt at *
        clear HCL M6 M7 HPs HT HP0
        go_wp2_with fail
        refine (HB.out _).mono ?_
        rintro e w3 ⟨rfl, hd3⟩
        have HB3 := Lib.hid (HB2.out.trans (hd3.below _))
        clear hd3
        go_wp2_with fail
        refine (HM2.out _).mono ?_
        rintro e w4 ⟨rfl, hb4⟩
        have HB4 := Lib.hid (HB3.out.trans (hb4.mono HB3.out.size))
        clear hb4
        go_upto_region 78 with fail
        go_wp2_with fail
        rw [Es.out]
        (with_reducible refine (HM3.out _).mono ?_)
        rintro e w5 ⟨rfl, hb5⟩
        have HB5 := Lib.hid (HB4.out.trans (hb5.mono HB4.out.size))
        clear hb5
        go_wp2
        go_ret
        exact ⟨rfl, HB5.out⟩


set_option maxRecDepth 1000000 in
set_option maxHeartbeats 16000000 in
theorem stageC (fs : List Int) (v v2 : Value) (k0 dd p : Nat) (w wr : World) (s2 s3 s4 s5 s6 s7 s8 s9 s10 s11 s12 s13 s14 s15 s16 s17 s18 s19 s20 s21 s22 s23 s24 s25 s26 s27 s28 s29 s30 s31 s32 s33 s34 s35 s36 s37 s38 s39 s40 s41 s42 s43 s44 s45 s46 s47 s48 s49 s50 s51 s52 s53 s54 s55 s56 s57 s58 s59 s60 s61 s62 s63 s64 s65 s66 s67 s68 s69 s70 s71 s72 s73 s74 s75 s76 s77 s78 s79 s80 s81 s82 s83 s84 s85 s86 s87 s88 s89 s90 s91 s92 s93 s94 s95 s96 s97 s98 s99 s100 s101 s102 s103 s104 s105 s106 s107 s108 s109 s110 s111 s112 s113 s114 s115 s116 s117 s118 s119 s120 s121 s122 s123 s124 s125 s126 s127 s128 s129 s130 s131 s132 s133 s134 s135 s136 s137 s138 s139 s140 s141 s142 s143 s144 s145 s146 s147 s148 s149 s150 s151 s152 s153 s154 s155 s156 s157 s158 s159 s160 s161 s162 s163 s164 s165 s166 s167 s168 s169 s170 s171 s172 s173 s174 s175 s176 s177 s178 s179 s180 s181 s182 s183 s184 s185 s186 s187 s188 s189 s190 s191 s192 s193 s194 s195 s196 s197 s198 s199 s200 s201 s202 s203 s204 s205 s206 s207 s208 s209 s210 s211 s212 s213 s214 s215 s216 s217 s218 s219 s220 s221 s222 s223 s224 s225 s226 s227 s228 s229 s230 s231 s232 s233 s234 s235 s236 s237 s238 s239 s240 s241 s242 s243 s244 s245 s246 s247 s248 s249 s250 s251 s252 s253 s254 s255 s256 s257 s258 s259 s260 s261 s262 s263 s264 s265 s266 s267 s268 s269 s270 s271 s272 s273 s274 s275 s276 s277 s278 s279 s280 s281 s282 s283 s284 s285 s286 s287 s288 s289 s290 s291 s292 s293 s294 s295 s296 s297 s298 s299 s300 s301 s302 s303 s304 s305 s306 s307 s308 s309 s310 s311 s312 s313 s314 s315 s316 s317 s318 s319 s320 s321 s322 s323 s324 s325 s326 s327 s328 s329 s330 s331 s332 s333 s334 s335 s336 s337 s338 s339 s340 s341 s342 s343 s344 s345 s346 s347 s348 s349 s350 s351 s352 s353 s354 s355 s356 s357 s358 s359 s360 s361 s362 s363 s364 s365 s366 s367 s368 s369 s370 s371 s372 s373 s374 s375 s376 s377 s378 s379 s380 s381 s382 s383 s384 s385 s386 s387 s388 s389 s390 s391 s392 s393 s394 s395 s396 s397 s398 s399 s400 s401 s402 s403 s404 s405 s406 s407 s408 s409 s410 s411 s412 s413 s414 s415 s416 s417 s418 s419 s420 s421 s422 s423 s424 s425 s426 s427 s428 s429 s430 s431 s432 s433 s434 s435 s436 s437 s438 s439 s440 s441 s442 s443 s444 s445 s446 s447 s448 s449 s450 s451 s452 s453 s454 s455 s456 s457 s458 s459 s460 s461 s462 s463 s464 s465 s466 s467 s468 s469 s470 s471 s472 s473 s474 s475 s476 s477 s478 s479 : Value) (K : Act → World → Prop)
    (hK : ∀ a z, Code.wp Try.prog (tailN 28 fnBody) (bodyPost Try.prog Try.f4 fun e w' => e = Ending.returned (Value.bool true) ∧ Below w.heap.size w w') a z → K a z)
    (hW : Below w.heap.size w wr) (hk0 : k0 < 10) (hdd : dd < 14) (hp : p < 9)
    (H47 : Hid (∀ z, Below w.heap.size w z → Calls Try.prog 11 #[v2, .int .i64 ((47 : Nat) : Int), .int .i64 ((10 : Nat) : Int)] z fun e w' => e = .returned (.int .i64 ((k0 : Nat) : Int)) ∧ z = w'))
    (H0 : Hid (∀ z, Below w.heap.size w z → Calls Try.prog 11 #[v, .int .i64 ((0 : Nat) : Int), .int .i64 ((14 : Nat) : Int)] z fun e w' => e = .returned (.int .i64 ((dd : Nat) : Int)) ∧ z = w'))
    (H1 : Hid (∀ z, Below w.heap.size w z → Calls Try.prog 11 #[v, .int .i64 ((1 : Nat) : Int), .int .i64 ((9 : Nat) : Int)] z fun e w' => e = .returned (.int .i64 ((p : Nat) : Int)) ∧ z = w')) :
    Code.wp Try.prog (headN 27 fnBody) (Exit.then K (bodyPost Try.prog Try.f4 fun e w' => e = Ending.returned (Value.bool true) ∧ Below w.heap.size w w')) ⟨#[v, v2, s2, s3, s4, s5, s6, s7, s8, s9, s10, s11, s12, s13, s14, s15, s16, s17, s18, s19, s20, s21, s22, s23, s24, s25, s26, s27, s28, s29, s30, s31, s32, s33, s34, s35, s36, s37, s38, s39, s40, s41, s42, s43, s44, s45, s46, s47, s48, s49, s50, s51, s52, s53, s54, s55, s56, s57, s58, s59, s60, s61, s62, s63, s64, s65, s66, s67, s68, s69, s70, s71, s72, s73, s74, s75, s76, s77, s78, s79, s80, s81, s82, s83, s84, s85, s86, s87, s88, s89, s90, s91, s92, s93, s94, s95, s96, s97, s98, s99, s100, s101, s102, s103, s104, s105, s106, s107, s108, s109, s110, s111, s112, s113, s114, s115, s116, s117, s118, s119, s120, s121, s122, s123, s124, s125, s126, s127, s128, s129, s130, s131, s132, s133, s134, s135, s136, s137, s138, s139, s140, s141, s142, s143, s144, s145, s146, s147, s148, s149, s150, s151, s152, s153, s154, s155, s156, s157, s158, s159, s160, s161, s162, s163, s164, s165, s166, s167, s168, s169, s170, s171, s172, s173, s174, s175, s176, s177, s178, s179, s180, s181, s182, s183, s184, s185, s186, s187, s188, s189, s190, s191, s192, s193, s194, s195, s196, s197, s198, s199, s200, s201, s202, s203, s204, s205, s206, s207, s208, s209, s210, s211, s212, s213, s214, s215, s216, s217, s218, s219, s220, s221, s222, s223, s224, s225, s226, s227, s228, s229, s230, s231, s232, s233, s234, s235, s236, s237, s238, s239, s240, s241, s242, s243, s244, s245, s246, s247, s248, s249, s250, s251, s252, s253, s254, s255, s256, s257, s258, s259, s260, s261, s262, s263, s264, s265, s266, s267, s268, s269, s270, s271, s272, s273, s274, s275, s276, s277, s278, s279, s280, s281, s282, s283, s284, s285, s286, s287, s288, s289, s290, s291, s292, s293, s294, s295, s296, s297, s298, s299, s300, s301, s302, s303, s304, s305, s306, s307, s308, s309, s310, s311, s312, s313, s314, s315, s316, s317, s318, s319, s320, s321, s322, s323, s324, s325, s326, s327, s328, s329, s330, s331, s332, s333, s334, s335, s336, s337, s338, s339, s340, s341, s342, s343, s344, s345, s346, s347, s348, s349, s350, s351, s352, s353, s354, s355, s356, s357, s358, s359, s360, s361, s362, s363, s364, s365, s366, s367, s368, s369, s370, s371, s372, s373, s374, s375, s376, s377, s378, s379, s380, s381, s382, s383, s384, s385, s386, s387, s388, s389, s390, s391, s392, s393, s394, s395, s396, s397, s398, s399, s400, s401, s402, s403, s404, s405, s406, s407, s408, s409, s410, s411, s412, s413, s414, s415, s416, s417, s418, s419, s420, s421, s422, s423, s424, s425, s426, s427, s428, s429, s430, s431, s432, s433, s434, s435, s436, s437, s438, s439, s440, s441, s442, s443, s444, s445, s446, s447, s448, s449, s450, s451, s452, s453, s454, s455, s456, s457, s458, s459, s460, s461, s462, s463, s464, s465, s466, s467, s468, s469, s470, s471, s472, s473, s474, s475, s476, s477, s478, s479], []⟩ wr := by
  conv at hK => enter [a, z, 1, 2]; whnf
  conv => arg 2; whnf
  have hwz := hW.size
  obtain ⟨J, hJ⟩ : ∃ J, J = k0 + 1 := ⟨_, rfl⟩
  have EK := Lib.hid (show (1 : Int) + (k0 : Int) = (J : Int) by omega)
  have hK1 : 1 ≤ J := by omega
  have hK2 : J ≤ 10 := by omega
  have HC := Lib.hid (fun z => impl_CouponCounts (J : Int) (by omega) (by omega) (dd : Int) (by omega) (by omega) z)
  have hcc : okCC (J : Int) (dd : Int) := by unfold okCC; omega
  have e1 : ok_CouponCounts (J : Int) (dd : Int) = true := decide_eq_true hcc
  have e2 : res_CouponCounts (J : Int) (dd : Int) = tab (J + 1) (fun k => cpF (J : Int) dd (k : Int)) := by
    unfold res_CouponCounts
    rw [if_pos hcc, Int.toNat_natCast, Int.toNat_natCast]
  rw [e1, e2] at HC
  have HM := Lib.hid (fun z => impl_CouponMean (J : Int) (by omega) (by omega) z)
  have e3 : ok_CouponMean (J : Int) = true := by unfold ok_CouponMean okCM; exact decide_eq_true (by omega)
  rw [e3] at HM
  obtain ⟨y1, y2, y3⟩ := mean_tab (J - 1) (by omega)
  rw [show ((J - 1 : Nat) : Int) + 1 = (J : Int) by omega] at y1 y2 y3
  obtain ⟨s1, s2⟩ := coup_sum J dd hK1 hK2 hdd
  have HS1 := Lib.hid s1
  have HN := Lib.hid (fun k (hk : k < J + 1) => cp_nonneg J dd k hK1 (by omega))
  have HLe := Lib.hid (fun k (hk : k ≤ J + 1) => sumI_le (fun k => cpF (J : Int) dd (k : Int)) (J + 1) (fun k hk => cp_nonneg J dd k hK1 (by omega)) k hk)
  have HZ := Lib.hid (fun k (hk : dd < k) => cp_zero (J : Int) (by omega) dd (k : Int) (.inr (.inr (by omega))))
  have HSs := Lib.hid (fun k => show sumI (fun k => cpF (J : Int) dd (k : Int)) (k + 1) = sumI (fun k => cpF (J : Int) dd (k : Int)) k + cpF (J : Int) dd (k : Int) from rfl)
  have HS0 := Lib.hid (show sumI (fun k => cpF (J : Int) dd (k : Int)) 0 = 0 from rfl)
  have HT := Lib.hid (fun t (ht : t < 15) => pw_tab J (by omega) t ht)
  have HP0 := Lib.hid (show pwI (J : Int) 0 = 1 from rfl)
  have HPs := Lib.hid (fun t => show pwI (J : Int) (t + 1) = pwI (J : Int) t * (J : Int) from rfl)
  clear hcc e1 e2 e3 hJ s1
  generalize res_CouponMean (J : Int) = X at *
  generalize res2_CouponMean (J : Int) = Y at *
  generalize pwI (J : Int) = PW at *
  generalize sumI (fun k => cpF (J : Int) dd (k : Int)) = SM at *
  go_wp2_with fail
  refine (H47.out _ hW).mono ?_
  rintro e w' ⟨rfl, rfl⟩
  go_wp2_with fail
  rw [EK.out]
  refine (H0.out _ hW).mono ?_
  rintro e w' ⟨rfl, rfl⟩
  go_wp2_with fail
  refine (HC.out _).mono ?_
  rintro e w1 ⟨r1, rfl, h1, hb1⟩
  have HB1 := Lib.hid (hW.trans (hb1.mono hwz))
  have HR1 := Lib.hid h1.sl
  clear h1 hb1 HC
  go_wp2_with fail
  refine (HM.out _).mono ?_
  rintro e w2 ⟨rfl, hb2⟩
  have HB2 := Lib.hid (HB1.out.trans (hb2.mono HB1.out.size))
  have HR2 := Lib.hid (HR1.out.later hb2)
  clear hb2 HB1 HR1 HM
  obtain ⟨q2, c2, rfl, hx⟩ := HR2.out
  rw [tab_len] at hx ⊢
  obtain ⟨hcap, bq, oq, rfl, hbq, hcell⟩ := hx (by omega)
  have HCL := Lib.hid (fun k (hk : k < J + 1) => (hcell k hk).trans (by rw [tab_get _ _ _ hk]))
  clear hx hcell HR2
  have ky : 0 ≤ (J : Int) * Y := Int.mul_nonneg (by omega) (by omega)
  have ky2 : (J : Int) * Y ≤ 100000000000 := Int.le_trans (Int.mul_le_mul (show (J : Int) ≤ 10 by omega) y3 (by omega) (by omega)) (by omega)
  have dy : decide (Y < 1) = false := decide_eq_false (by omega)
  have dx : decide (X < (J : Int) * Y) = false := decide_eq_false (by omega)
  have nk : ((J : Int) + 1 != (J : Int) + 1) = false := by simp
  go_wp2_with fail
  obtain ⟨wo, rfl⟩ : ∃ z, z = w2 := ⟨_, rfl⟩
  go_loopw [42, 43] (fun d i wz => ∃ t : Nat, t ≤ dd ∧ d = .int .i64 (PW t) ∧ i = .int .i64 (t : Int) ∧ Hid (wz = wo)) (fun _ i _ => dd - (intOf i).toNat)
  case atStart => exact ⟨0, Nat.zero_le _, by rw [HP0.out], rfl, Lib.hid rfl⟩
  case round =>
    obtain ⟨t, ht, rfl, rfl, hw⟩ := hrel
    obtain rfl := hw.out
    by_cases hlt : t < dd
    · have HE := Lib.hid (HPs.out t)
      have hbd := HT.out (t + 1) (by omega)
      rw [HE.out] at hbd
      obtain ⟨hbd0, hbd1⟩ := hbd
      clear HPs HT HCL HLe HN HZ HSs s2 dx ky ky2 dy y1 y2 y3
      generalize PW t = Pt at *
      go_wp2
      go_roundw
      case rel => exact ⟨t + 1, by omega, by rw [HE.out], by go_num, Lib.hid (by first | trivial | rfl)⟩
      case measure => simp [intOf]; omega
    · obtain rfl : t = dd := by omega
      clear HPs HT HP0 dx ky ky2 dy y1 y2 y3
      generalize PW t = Pt at *
      obtain ⟨wp, rfl⟩ : ∃ z, z = wr := ⟨_, rfl⟩
      go_wp2_with fail
      go_loopw [41, 44] (fun d i wz => ∃ k : Nat, k ≤ J + 1 ∧ d = .int .i64 (SM k) ∧ i = .int .i64 (k : Int) ∧ Hid (wz = wp)) (fun _ i _ => J + 1 - (intOf i).toNat)
      case atStart => exact ⟨0, Nat.zero_le _, by rw [HS0.out], rfl, Lib.hid rfl⟩
      case round =>
        obtain ⟨k, hk, rfl, rfl, hw⟩ := hrel
        obtain rfl := hw.out
        by_cases hlk : k ≤ J
        · have HE := Lib.hid (HSs.out k)
          have hb1 := HLe.out k (by omega)
          have hb2 := HLe.out (k + 1) (by omega)
          rw [HS1.out] at hb1 hb2
          rw [HE.out] at hb2
          have cc := HCL.out k (by omega)
          have hn := HN.out k (by omega)
          have dk : decide (k ≤ J) = true := decide_eq_true hlk
          obtain ⟨hb10, hb11⟩ := hb1
          obtain ⟨hb20, hb21⟩ := hb2
          by_cases hgt : t < k
          · have hz := HZ.out k hgt
            have dg : decide (t < k) = true := decide_eq_true hgt
            rw [hz] at cc
            rw [hz] at HE
            clear HSs HLe HN HZ HCL hz hn hb20 hb21
            generalize SM k = Sk at *
            go_wp2
            go_roundw
            case rel => exact ⟨k + 1, by omega, by first | (rw [HE.out]; done) | (rw [HE.out, Int.add_zero]), by go_num, Lib.hid (by first | trivial | rfl)⟩
            case measure => simp [intOf]; omega
          · have dg : decide (t < k) = false := decide_eq_false hgt
            clear HSs HLe HN HZ HCL
            generalize cpF (J : Int) t (k : Int) = x at *
            generalize SM k = Sk at *
            go_wp2
            go_roundw
            case rel => exact ⟨k + 1, by omega, by rw [HE.out], by go_num, Lib.hid (by first | trivial | rfl)⟩
            case measure => simp [intOf]; omega
        · obtain rfl : k = J + 1 := by omega
          have dk : decide (J + 1 ≤ J) = false := decide_eq_false (by omega)
          have hS1 := HS1.out
          rw [hS1]
          have np : (Pt != Pt) = false := by simp
          clear HSs HLe HN HZ HCL hS1 HS1 HS0
          go_upto_region 66 with fail
          exact stageD v v2 J p w _ _ _ _ _ _ _ _ _ _ _ _ _ _ _ _ _ _ _ _ _ _ _ _ _ _ _ _ _ _ _ _ _ _ _ _ _ _ _ _ _ _ _ _ _ _ _ _ _ _ _ _ _ _ _ _ _ _ _ _ _ _ _ _ _ _ _ _ _ _ _ _ _ _ _ _ _ _ _ _ _ _ _ _ _ _ _ _ _ _ _ _ _ _ _ _ _ _ _ _ _ _ _ _ _ _ _ _ _ _ _ _ _ _ _ _ _ _ _ _ _ _ _ _ _ _ _ _ _ _ _ _ _ _ _ _ _ _ _ _ _ _ _ _ _ _ _ _ _ _ _ _ _ _ _ _ _ _ _ _ _ _ _ _ _ _ _ _ _ _ _ _ _ _ _ _ _ _ _ _ _ _ _ _ _ _ _ _ _ _ _ _ _ _ _ _ _ _ _ _ _ _ _ _ _ _ _ _ _ _ _ _ _ _ _ _ _ _ _ _ _ _ _ _ _ _ _ _ _ _ _ _ _ _ _ _ _ _ _ _ _ _ _ _ _ _ _ _ _ _ _ _ _ _ _ _ _ _ _ _ _ _ _ _ _ _ _ _ _ _ _ _ _ _ _ _ _ _ _ _ _ _ _ _ _ _ _ _ _ _ _ _ _ _ _ _ _ _ _ _ _ _ _ _ _ _ _ _ _ _ _ _ _ _ _ _ _ _ _ _ _ _ _ _ _ _ _ _ _ _ _ _ _ _ _ _ _ _ _ _ _ _ _ _ _ _ _ _ _ _ _ _ _ _ _ _ _ _ _ _ _ _ _ _ _ _ _ _ _ _ _ _ _ _ _ _ _ _ _ _ _ _ _ _ _ _ _ _ _ _ _ _ _ _ _ _ _ _ _ _ _ _ _ _ _ _ _ _ _ _ _ _ _ _ _ _ _ _ _ _ _ _ _ _ _ _ _ _ _ _ _ _ _ _ _ _ _ _ _ _ _ _ _ _ _ _ _ _ _ _ _ _ _ _ _ _ _ _ _ _ _ _ _ _ _ _ _ _ _ _ _ _ _ _ _ _ _ _ _ (by assumption) HB2.out hK1 hK2 hp H1


set_option maxRecDepth 1000000 in
set_option maxHeartbeats 16000000 in
theorem stageB (fs gs : List Int) (v v2 : Value) (t0 k0 dd p : Nat) (w wr : World) (s2 s3 s4 s5 s6 s7 s8 s9 s10 s11 s12 s13 s14 s15 s16 s17 s18 s19 s20 s21 s22 s23 s24 s25 s26 s27 s28 s29 s30 s31 s32 s33 s34 s35 s36 s37 s38 s39 s40 s41 s42 s43 s44 s45 s46 s47 s48 s49 s50 s51 s52 s53 s54 s55 s56 s57 s58 s59 s60 s61 s62 s63 s64 s65 s66 s67 s68 s69 s70 s71 s72 s73 s74 s75 s76 s77 s78 s79 s80 s81 s82 s83 s84 s85 s86 s87 s88 s89 s90 s91 s92 s93 s94 s95 s96 s97 s98 s99 s100 s101 s102 s103 s104 s105 s106 s107 s108 s109 s110 s111 s112 s113 s114 s115 s116 s117 s118 s119 s120 s121 s122 s123 s124 s125 s126 s127 s128 s129 s130 s131 s132 s133 s134 s135 s136 s137 s138 s139 s140 s141 s142 s143 s144 s145 s146 s147 s148 s149 s150 s151 s152 s153 s154 s155 s156 s157 s158 s159 s160 s161 s162 s163 s164 s165 s166 s167 s168 s169 s170 s171 s172 s173 s174 s175 s176 s177 s178 s179 s180 s181 s182 s183 s184 s185 s186 s187 s188 s189 s190 s191 s192 s193 s194 s195 s196 s197 s198 s199 s200 s201 s202 s203 s204 s205 s206 s207 s208 s209 s210 s211 s212 s213 s214 s215 s216 s217 s218 s219 s220 s221 s222 s223 s224 s225 s226 s227 s228 s229 s230 s231 s232 s233 s234 s235 s236 s237 s238 s239 s240 s241 s242 s243 s244 s245 s246 s247 s248 s249 s250 s251 s252 s253 s254 s255 s256 s257 s258 s259 s260 s261 s262 s263 s264 s265 s266 s267 s268 s269 s270 s271 s272 s273 s274 s275 s276 s277 s278 s279 s280 s281 s282 s283 s284 s285 s286 s287 s288 s289 s290 s291 s292 s293 s294 s295 s296 s297 s298 s299 s300 s301 s302 s303 s304 s305 s306 s307 s308 s309 s310 s311 s312 s313 s314 s315 s316 s317 s318 s319 s320 s321 s322 s323 s324 s325 s326 s327 s328 s329 s330 s331 s332 s333 s334 s335 s336 s337 s338 s339 s340 s341 s342 s343 s344 s345 s346 s347 s348 s349 s350 s351 s352 s353 s354 s355 s356 s357 s358 s359 s360 s361 s362 s363 s364 s365 s366 s367 s368 s369 s370 s371 s372 s373 s374 s375 s376 s377 s378 s379 s380 s381 s382 s383 s384 s385 s386 s387 s388 s389 s390 s391 s392 s393 s394 s395 s396 s397 s398 s399 s400 s401 s402 s403 s404 s405 s406 s407 s408 s409 s410 s411 s412 s413 s414 s415 s416 s417 s418 s419 s420 s421 s422 s423 s424 s425 s426 s427 s428 s429 s430 s431 s432 s433 s434 s435 s436 s437 s438 s439 s440 s441 s442 s443 s444 s445 s446 s447 s448 s449 s450 s451 s452 s453 s454 s455 s456 s457 s458 s459 s460 s461 s462 s463 s464 s465 s466 s467 s468 s469 s470 s471 s472 s473 s474 s475 s476 s477 s478 s479 : Value) (K : Act → World → Prop)
    (hK : ∀ a z, Code.wp Try.prog (tailN 19 fnBody) (bodyPost Try.prog Try.f4 fun e w' => e = Ending.returned (Value.bool true) ∧ Below w.heap.size w w') a z → K a z)
    (hW : Below w.heap.size w wr) (ht0 : t0 < 40) (hk0 : k0 < 10) (hdd : dd < 14) (hp : p < 9)
    (H45 : Hid (∀ z, Below w.heap.size w z → Calls Try.prog 11 #[v2, .int .i64 ((45 : Nat) : Int), .int .i64 ((40 : Nat) : Int)] z fun e w' => e = .returned (.int .i64 ((t0 : Nat) : Int)) ∧ z = w'))
    (H46 : Hid (∀ z n, 1 ≤ n → n ≤ 40 → Below w.heap.size w z → Calls Try.prog 11 #[v2, .int .i64 ((46 : Nat) : Int), .int .i64 ((n : Nat) : Int)] z fun e w' => e = .returned (.int .i64 ((r8V gs 46 n : Nat) : Int)) ∧ z = w'))
    (H47 : Hid (∀ z, Below w.heap.size w z → Calls Try.prog 11 #[v2, .int .i64 ((47 : Nat) : Int), .int .i64 ((10 : Nat) : Int)] z fun e w' => e = .returned (.int .i64 ((k0 : Nat) : Int)) ∧ z = w'))
    (H0 : Hid (∀ z, Below w.heap.size w z → Calls Try.prog 11 #[v, .int .i64 ((0 : Nat) : Int), .int .i64 ((14 : Nat) : Int)] z fun e w' => e = .returned (.int .i64 ((dd : Nat) : Int)) ∧ z = w'))
    (H1 : Hid (∀ z, Below w.heap.size w z → Calls Try.prog 11 #[v, .int .i64 ((1 : Nat) : Int), .int .i64 ((9 : Nat) : Int)] z fun e w' => e = .returned (.int .i64 ((p : Nat) : Int)) ∧ z = w')) :
    Code.wp Try.prog (headN 18 fnBody) (Exit.then K (bodyPost Try.prog Try.f4 fun e w' => e = Ending.returned (Value.bool true) ∧ Below w.heap.size w w')) ⟨#[v, v2, s2, s3, s4, s5, s6, s7, s8, s9, s10, s11, s12, s13, s14, s15, s16, s17, s18, s19, s20, s21, s22, s23, s24, s25, s26, s27, s28, s29, s30, s31, s32, s33, s34, s35, s36, s37, s38, s39, s40, s41, s42, s43, s44, s45, s46, s47, s48, s49, s50, s51, s52, s53, s54, s55, s56, s57, s58, s59, s60, s61, s62, s63, s64, s65, s66, s67, s68, s69, s70, s71, s72, s73, s74, s75, s76, s77, s78, s79, s80, s81, s82, s83, s84, s85, s86, s87, s88, s89, s90, s91, s92, s93, s94, s95, s96, s97, s98, s99, s100, s101, s102, s103, s104, s105, s106, s107, s108, s109, s110, s111, s112, s113, s114, s115, s116, s117, s118, s119, s120, s121, s122, s123, s124, s125, s126, s127, s128, s129, s130, s131, s132, s133, s134, s135, s136, s137, s138, s139, s140, s141, s142, s143, s144, s145, s146, s147, s148, s149, s150, s151, s152, s153, s154, s155, s156, s157, s158, s159, s160, s161, s162, s163, s164, s165, s166, s167, s168, s169, s170, s171, s172, s173, s174, s175, s176, s177, s178, s179, s180, s181, s182, s183, s184, s185, s186, s187, s188, s189, s190, s191, s192, s193, s194, s195, s196, s197, s198, s199, s200, s201, s202, s203, s204, s205, s206, s207, s208, s209, s210, s211, s212, s213, s214, s215, s216, s217, s218, s219, s220, s221, s222, s223, s224, s225, s226, s227, s228, s229, s230, s231, s232, s233, s234, s235, s236, s237, s238, s239, s240, s241, s242, s243, s244, s245, s246, s247, s248, s249, s250, s251, s252, s253, s254, s255, s256, s257, s258, s259, s260, s261, s262, s263, s264, s265, s266, s267, s268, s269, s270, s271, s272, s273, s274, s275, s276, s277, s278, s279, s280, s281, s282, s283, s284, s285, s286, s287, s288, s289, s290, s291, s292, s293, s294, s295, s296, s297, s298, s299, s300, s301, s302, s303, s304, s305, s306, s307, s308, s309, s310, s311, s312, s313, s314, s315, s316, s317, s318, s319, s320, s321, s322, s323, s324, s325, s326, s327, s328, s329, s330, s331, s332, s333, s334, s335, s336, s337, s338, s339, s340, s341, s342, s343, s344, s345, s346, s347, s348, s349, s350, s351, s352, s353, s354, s355, s356, s357, s358, s359, s360, s361, s362, s363, s364, s365, s366, s367, s368, s369, s370, s371, s372, s373, s374, s375, s376, s377, s378, s379, s380, s381, s382, s383, s384, s385, s386, s387, s388, s389, s390, s391, s392, s393, s394, s395, s396, s397, s398, s399, s400, s401, s402, s403, s404, s405, s406, s407, s408, s409, s410, s411, s412, s413, s414, s415, s416, s417, s418, s419, s420, s421, s422, s423, s424, s425, s426, s427, s428, s429, s430, s431, s432, s433, s434, s435, s436, s437, s438, s439, s440, s441, s442, s443, s444, s445, s446, s447, s448, s449, s450, s451, s452, s453, s454, s455, s456, s457, s458, s459, s460, s461, s462, s463, s464, s465, s466, s467, s468, s469, s470, s471, s472, s473, s474, s475, s476, s477, s478, s479], []⟩ wr := by
  conv at hK => enter [a, z, 1, 2]; whnf
  conv => arg 2; whnf
  have hwz := hW.size
  obtain ⟨T, hT⟩ : ∃ T, T = t0 + 1 := ⟨_, rfl⟩
  have ET := Lib.hid (show (1 : Int) + (t0 : Int) = (T : Int) by omega)
  have hT1 : 1 ≤ T := by omega
  have hT2 : T ≤ 40 := by omega
  have hl0 := r8V_lt gs 46 T hT1
  have H46' := Lib.hid (fun z hz => H46.out z T hT1 hT2 hz)
  generalize r8V gs 46 T = l0 at *
  obtain ⟨L, hL⟩ : ∃ L, L = l0 + 1 := ⟨_, rfl⟩
  have EL := Lib.hid (show (1 : Int) + (l0 : Int) = (L : Int) by omega)
  have hL1 : 1 ≤ L := by omega
  have hL2 : L ≤ T := by omega
  have HC := Lib.hid (fun z => impl_StreakCount (T : Int) (by omega) (by omega) (L : Int) (by omega) (by omega) z)
  have hcc : okSC (T : Int) (L : Int) := by unfold okSC; omega
  have e1 : ok_StreakCount (T : Int) (L : Int) = true := decide_eq_true hcc
  have e2 : res_StreakCount (T : Int) (L : Int) = pwI 2 T - fewer T L := by
    unfold res_StreakCount
    rw [if_pos hcc, Int.toNat_natCast, Int.toNat_natCast]
  rw [e1, e2] at HC
  have HD := Lib.hid (fun z => impl_StreakCounts (T : Int) (by omega) (by omega) z)
  have hdd' : 1 ≤ (T : Int) ∧ (T : Int) ≤ 60 := by omega
  have e3 : ok_StreakCounts (T : Int) = true := decide_eq_true hdd'
  have e4 : res_StreakCounts (T : Int) = tab (T + 1) (strG T) := by
    unfold res_StreakCounts
    rw [if_pos hdd', Int.toNat_natCast]
  rw [e3, e4] at HD
  obtain ⟨tw1, tw2⟩ := two_tab T (by omega)
  have HF := Lib.hid (fun k => fewer_bd T k)
  have HS0 := Lib.hid (show fewer T 0 = 0 from fewer_none T)
  have HSs := Lib.hid (fun k => show fewer T (k + 1) = fewer T k + strG T k by unfold strG; omega)
  have HA0 := Lib.hid (show fromI (strG T) L 0 = 0 from rfl)
  have HAs := Lib.hid (fun k (h : L ≤ k) => show fromI (strG T) L (k + 1) = fromI (strG T) L k + strG T k by show fromI (strG T) L k + (if L ≤ k then strG T k else 0) = _; rw [if_pos h])
  have HAn := Lib.hid (fun k (h : ¬ L ≤ k) => show fromI (strG T) L (k + 1) = fromI (strG T) L k by show fromI (strG T) L k + (if L ≤ k then strG T k else 0) = _; rw [if_neg h, Int.add_zero])
  have HAb := Lib.hid (fun k => show -4398046511104 ≤ fromI (strG T) L k ∧ fromI (strG T) L k ≤ 4398046511104 by
    rw [str_from]
    have a1 := fewer_bd T k
    have a2 := fewer_bd T L
    split <;> omega)
  have HAe := Lib.hid (show fromI (strG T) L (T + 1) = pwI 2 T - fewer T L by rw [str_from, if_pos (by omega), fewer_all])
  have HSe := Lib.hid (fewer_all T)
  have HG0 := Lib.hid (str_first T)
  have HGT := Lib.hid (str_last T hT1)
  clear hcc e1 e2 hdd' e3 e4 hT hL
  generalize strG T = G at *
  generalize fromI G L = FR at *
  generalize fewer T = FW at *
  generalize pwI 2 T = P2 at *
  have TW1 := Lib.hid tw1
  have tw0 : 0 ≤ P2 := by rw [tw1]; exact Int.natCast_nonneg _
  clear tw1
  go_wp2_with fail
  refine (H45.out _ hW).mono ?_
  rintro e w' ⟨rfl, rfl⟩
  go_wp2_with fail
  rw [ET.out]
  refine (H46'.out _ hW).mono ?_
  rintro e w' ⟨rfl, rfl⟩
  go_wp2_with fail
  rw [EL.out]
  refine (HC.out _).mono ?_
  rintro e w1 ⟨rfl, hb1⟩
  have HB1 := Lib.hid (hW.trans (hb1.mono hwz))
  clear hb1 HC
  go_wp2_with fail
  refine (HD.out _).mono ?_
  rintro e w2 ⟨r2, rfl, h2, hb2⟩
  have HB2 := Lib.hid (HB1.out.trans (hb2.mono HB1.out.size))
  have HR2 := Lib.hid h2.sl
  clear h2 hb2 HB1 HD
  obtain ⟨q2, c2, rfl, hx⟩ := HR2.out
  rw [tab_len] at hx ⊢
  obtain ⟨hcap, bq, oq, rfl, hbq, hcell⟩ := hx (by omega)
  have HCL := Lib.hid (fun k (hk : k < T + 1) => (hcell k hk).trans (by rw [tab_get _ _ _ hk]))
  have cc0 := HCL.out 0 (by omega)
  rw [HG0.out, Nat.add_zero] at cc0
  have ccT := HCL.out T (by omega)
  rw [HGT.out] at ccT
  clear hx hcell HR2
  have nk : ((T : Int) + 1 != (T : Int) + 1) = false := by simp
  obtain ⟨wo, rfl⟩ : ∃ z, z = w2 := ⟨_, rfl⟩
  go_wp2_with fail
  go_loopw [31, 32, 33] (fun d f i wz => ∃ k : Nat, k ≤ T + 1 ∧ d = .int .i64 (FW k) ∧ f = .int .i64 (FR k) ∧ i = .int .i64 (k : Int) ∧ Hid (wz = wo)) (fun _ _ i _ => T + 1 - (intOf i).toNat)
  case atStart => exact ⟨0, Nat.zero_le _, by rw [HS0.out], by rw [HA0.out], rfl, Lib.hid rfl⟩
  case round =>
    obtain ⟨k, hk, rfl, rfl, rfl, hw⟩ := hrel
    obtain rfl := hw.out
    by_cases hlk : k ≤ T
    · have HE := Lib.hid (HSs.out k)
      have hb1 := HF.out k
      have hb2 := HF.out (k + 1)
      rw [HE.out] at hb2
      have cc := HCL.out k (by omega)
      have dk : decide (k ≤ T) = true := decide_eq_true hlk
      have ab1 := HAb.out k
      have ab2 := HAb.out (k + 1)
      obtain ⟨hb10, hb11⟩ := hb1
      obtain ⟨hb20, hb21⟩ := hb2
      obtain ⟨ab10, ab11⟩ := ab1
      by_cases hge : L ≤ k
      · have HN := Lib.hid (HAs.out k hge)
        rw [HN.out] at ab2
        obtain ⟨ab20, ab21⟩ := ab2
        have dg : decide (L ≤ k) = true := decide_eq_true hge
        clear HSs HF HCL HAs HAn HAb HAe HSe cc0 ccT
        generalize G k = x at *
        generalize FW k = Fk at *
        generalize FR k = Rk at *
        go_wp2
        go_roundw
        case rel => exact ⟨k + 1, by omega, by rw [HE.out], by rw [HN.out], by go_num, Lib.hid (by first | trivial | rfl)⟩
        case measure => simp [intOf]; omega
      · have HN := Lib.hid (HAn.out k hge)
        have dg : decide (L ≤ k) = false := decide_eq_false hge
        clear HSs HF HCL HAs HAn HAb HAe HSe cc0 ccT ab2
        generalize G k = x at *
        generalize FW k = Fk at *
        generalize FR k = Rk at *
        go_wp2
        go_roundw
        case rel => exact ⟨k + 1, by omega, by rw [HE.out], by rw [HN.out], by go_num, Lib.hid (by first | trivial | rfl)⟩
        case measure => simp [intOf]; omega
    · obtain rfl : k = T + 1 := by omega
      have dk : decide (T + 1 ≤ T) = false := decide_eq_false (by omega)
      have hs1 := HSe.out
      have hs2 := HAe.out
      rw [hs1, hs2]
      have hsh : wrap64 ((2 : Int) ^ T) = P2 := by
        rw [show (2 : Int) ^ T = P2 by rw [TW1.out]; push_cast; rfl]
        exact IntWalk.wrap64_in _ ⟨by omega, by omega⟩
      have np : (P2 != P2) = false := by simp
      have np2 : (P2 - FW L != P2 - FW L) = false := by simp
      clear HSs HF HCL HAs HAn HAb HAe HSe cc0 ccT hs1 hs2
      go_upto_region 46 with fail
      exact stageC fs v v2 k0 dd p w _ _ _ _ _ _ _ _ _ _ _ _ _ _ _ _ _ _ _ _ _ _ _ _ _ _ _ _ _ _ _ _ _ _ _ _ _ _ _ _ _ _ _ _ _ _ _ _ _ _ _ _ _ _ _ _ _ _ _ _ _ _ _ _ _ _ _ _ _ _ _ _ _ _ _ _ _ _ _ _ _ _ _ _ _ _ _ _ _ _ _ _ _ _ _ _ _ _ _ _ _ _ _ _ _ _ _ _ _ _ _ _ _ _ _ _ _ _ _ _ _ _ _ _ _ _ _ _ _ _ _ _ _ _ _ _ _ _ _ _ _ _ _ _ _ _ _ _ _ _ _ _ _ _ _ _ _ _ _ _ _ _ _ _ _ _ _ _ _ _ _ _ _ _ _ _ _ _ _ _ _ _ _ _ _ _ _ _ _ _ _ _ _ _ _ _ _ _ _ _ _ _ _ _ _ _ _ _ _ _ _ _ _ _ _ _ _ _ _ _ _ _ _ _ _ _ _ _ _ _ _ _ _ _ _ _ _ _ _ _ _ _ _ _ _ _ _ _ _ _ _ _ _ _ _ _ _ _ _ _ _ _ _ _ _ _ _ _ _ _ _ _ _ _ _ _ _ _ _ _ _ _ _ _ _ _ _ _ _ _ _ _ _ _ _ _ _ _ _ _ _ _ _ _ _ _ _ _ _ _ _ _ _ _ _ _ _ _ _ _ _ _ _ _ _ _ _ _ _ _ _ _ _ _ _ _ _ _ _ _ _ _ _ _ _ _ _ _ _ _ _ _ _ _ _ _ _ _ _ _ _ _ _ _ _ _ _ _ _ _ _ _ _ _ _ _ _ _ _ _ _ _ _ _ _ _ _ _ _ _ _ _ _ _ _ _ _ _ _ _ _ _ _ _ _ _ _ _ _ _ _ _ _ _ _ _ _ _ _ _ _ _ _ _ _ _ _ _ _ _ _ _ _ _ _ _ _ _ _ _ _ _ _ _ _ _ _ _ _ _ _ _ _ _ _ _ _ _ _ _ _ _ _ _ _ _ _ _ _ _ _ _ _ _ _ _ _ _ _ _ (by assumption) HB2.out hk0 hdd hp H47 H0 H1
end Go.Proofs.Yticocfoheenmdaa
