/- HouseChance holds for every input: from the last chance of a run a way avoids all losses, and from no later state there is one; a state is safe if and only if it is not lost and one of its moves is safe; and the examples hold. No condition. -/
import Derived.Test.YtgohbjlfgiohiaaHo
import Derived.Test.YtgohbjlfgiohiaaHp
import Derived.Test.YtgohbjlfgiohiaaHk
import Derived.Test.YtgohbjlfgiohiaaHr
import Derived.Deep.CutBlock
namespace Go.Proofs.Ytgohbjlfgiohiaa
open Go.ChangeShapes Go.WideShapes Go.ChangeAt Go.RowKit

/-- One of the first k is. -/
def anyT (p : Nat → Bool) : Nat → Bool
  | 0 => false
  | k + 1 => anyT p k || p k
theorem anyT_iff (p : Nat → Bool) : ∀ n, anyT p n = true ↔ ∃ k, k < n ∧ p k = true
  | 0 => by simp [anyT]
  | n + 1 => by
    unfold anyT
    rw [Bool.or_eq_true, anyT_iff p n]
    constructor
    · rintro (⟨k, h1, h2⟩ | h)
      · exact ⟨k, by omega, h2⟩
      · exact ⟨n, by omega, h⟩
    · rintro ⟨k, h1, h2⟩
      rcases Nat.lt_succ_iff_lt_or_eq.1 h1 with h | h
      · exact .inl ⟨k, h, h2⟩
      · subst h; exact .inr h2
theorem safe_fix {n : Nat} {lost s : Nat → Bool} {len : Nat → Nat} {mv : Nat → Nat → Int} (hs : IsSafe n lost len mv s) {i : Nat} (hi : i < n) :
    s i = (anyT (fun q => s (mv i q).toNat) (len i) && !lost i) := by
  rw [Bool.eq_iff_iff, Bool.and_eq_true, anyT_iff]
  constructor
  · intro h
    obtain ⟨h1, h2⟩ := hs.post i hi h
    exact ⟨h2, by rw [h1]; rfl⟩
  · rintro ⟨⟨q, hq, hx⟩, hl⟩
    refine hs.big (fun j => s j || decide (j = i)) (fun j hj ht => ?_) i hi (by simp)
    by_cases e : j = i
    · subst e
      exact ⟨by simpa using hl, q, hq, by simp [hx]⟩
    · have : s j = true := by simpa [e] using ht
      obtain ⟨h1, q', hq', hx'⟩ := hs.post j hj this
      exact ⟨h1, q', hq', by simp [hx']⟩
theorem lastC_congr {s t : Nat → Bool} {rv : Nat → Int} : ∀ m, (∀ k, k < m → s (rv k).toNat = t (rv k).toNat) → lastC s rv m = lastC t rv m
  | 0, _ => rfl
  | m + 1, h => by unfold lastC; rw [h m (by omega), lastC_congr m (fun k hk => h k (by omega))]
theorem lastC_cases (s : Nat → Bool) (rv : Nat → Int) : ∀ m, (lastC s rv m = -1 ∧ ∀ k, k < m → s (rv k).toNat = false) ∨ ∃ k, k < m ∧ lastC s rv m = (k : Int) ∧ s (rv k).toNat = true ∧ ∀ j, k < j → j < m → s (rv j).toNat = false
  | 0 => .inl ⟨rfl, fun k hk => absurd hk (by omega)⟩
  | m + 1 => by
    unfold lastC
    cases e : s (rv m).toNat
    · rcases lastC_cases s rv m with ⟨h1, h2⟩ | ⟨k, h1, h2, h3, h4⟩
      · exact .inl ⟨h1, fun k hk => by rcases Nat.lt_succ_iff_lt_or_eq.1 hk with h | h; exact h2 k h; subst h; exact e⟩
      · exact .inr ⟨k, by omega, h2, h3, fun j hj hjm => by rcases Nat.lt_succ_iff_lt_or_eq.1 hjm with h | h; exact h4 j hj h; subst h; exact e⟩
    · exact .inr ⟨m, by omega, rfl, e, fun j h1 h2 => by omega⟩
set_option maxRecDepth 100000 in
set_option maxHeartbeats 8000000 in
theorem chance_any (w : World) (la : Option Addr) (ll lc0 : Nat) (lv : Nat → Int) (hll : ll ≤ 9223372036854775807) (hlm : IsL w la ll lv) (hlb : ∀ k, k < ll → -9223372036854775808 ≤ lv k ∧ lv k ≤ 9223372036854775807)
    (ra : Option Addr) (rl rc : Nat) (rv : Nat → Int) (hrl : rl ≤ 9223372036854775807) (hrm : IsL w ra rl rv) (hrb : ∀ k, k < rl → -9223372036854775808 ≤ rv k ∧ rv k ≤ 9223372036854775807) :
    Calls Try.prog 6 #[.slice la ll lc0, .slice ra rl rc] w fun e w' => e = .returned (.bool true) ∧ Below w.heap.size w w' := by
  obtain ⟨n, hn⟩ : ∃ n, n = bN ll lv := ⟨_, rfl⟩
  obtain ⟨lost, hlost⟩ : ∃ lost, lost = bLost ll lv := ⟨_, rfl⟩
  obtain ⟨len, hlen⟩ : ∃ len, len = bLen ll lv := ⟨_, rfl⟩
  obtain ⟨mv, hmv⟩ : ∃ mv, mv = bMv ll lv := ⟨_, rfl⟩
  have hblow := blow_any la ll lc0 lv w hll hlm hlb
  unfold BlowOut at hblow
  have hok := b_ok ll lv
  have hnb := bN_bd ll lv
  rw [← hn, ← hlost, ← hlen, ← hmv] at hblow
  rw [← hn, ← hlen, ← hmv] at hok
  rw [← hn] at hnb
  obtain ⟨hn1, hn2⟩ := hnb
  have HBL : Aside (Calls Try.prog 27 #[.slice la ll lc0] w fun e w' => ∃ lb mb lc mc P C, e = .returned (.agg (bv lb 0 mb 0 n lc mc)) ∧ BIs w' lb 0 mb 0 n lost P (fun _ => 0) C len mv ∧ Below w.heap.size w w') := hblow
  have HV : Aside (Okb n len mv) := hok
  have HRM : Aside (IsL w ra rl rv) := hrm
  have HRB : Aside (∀ k, k < rl → -9223372036854775808 ≤ rv k ∧ rv k ≤ 9223372036854775807) := hrb
  obtain ⟨i2, hi, hz0, hz1, hz2⟩ := info_parts info_int
  have HI2 : Aside (Try.prog.info? 3 = some i2 ∧ i2.zero = some (.int .i64 0) ∧ i2.size = 1 ∧ i2.bytes = 8) := ⟨hi, hz0, hz1, hz2⟩
  clear hi hz0 hz1 hz2 hn hlost hlen hmv hblow hok hlm hlb hrm hrb hll
  obtain ⟨rs, hrs⟩ : ∃ rs : Nat → Int, rs = fun k => rv k % (n : Int) := ⟨_, rfl⟩
  have HRS : Aside (∀ k, rs k = rv k % (n : Int)) := fun k => by rw [hrs]
  have HRS0 : Aside (∀ k, 0 ≤ rs k ∧ rs k < n) := fun k => by rw [hrs]; exact ⟨Int.emod_nonneg _ (by omega), Int.emod_lt_of_pos _ (by omega)⟩
  clear hrs
  go_enter Try.func6, Try.ntmps6
  go_wp2_with fail
  refine HBL.out.mono ?_
  rintro e w1 ⟨lb, mb, lc, mc, P, C, rfl, hI, hb1⟩
  have HI : Aside (BIs w1 lb 0 mb 0 n lost P (fun _ => 0) C len mv) := hI
  clear hI HBL
  go_upto_region 2 with fail
  obtain ⟨W, hW⟩ : ∃ W, W = w1.alloc (.cells (bv lb 0 mb 0 n lc mc) 25) := ⟨_, rfl⟩
  have b1 : Below w1.heap.size w1 W := by rw [hW]; go_grown
  obtain ⟨bb, hbb⟩ : ∃ bb, bb = w1.heap.size := ⟨_, rfl⟩
  have c0 : W.cell? ⟨bb, 0, none⟩ = some (.slice (some ⟨lb, 0, none⟩) n lc) := by rw [hW, hbb]; simp [go_sem]
  have c1 : W.cell? ⟨bb, 1, none⟩ = some (.slice (some ⟨mb, 0, none⟩) n mc) := by rw [hW, hbb]; simp [go_sem]
  have hbW : Below w.heap.size w W := below_next hb1 b1
  have HIW : Aside (BIs W lb 0 mb 0 n lost P (fun _ => 0) C len mv) := HI.out.below b1
  have HRMW : Aside (IsL W ra rl rv) := HRM.out.below hbW
  rw [← hW, ← hbb]
  clear hW hbb HI HRM hb1 b1
  obtain ⟨SL, hSL⟩ : ∃ SL, SL = min rl 40 := ⟨_, rfl⟩
  have hSL1 : SL ≤ rl := by rw [hSL]; exact Nat.min_le_left _ _
  have hSL2 : SL ≤ 40 := by rw [hSL]; exact Nat.min_le_right _ _
  have hSL3 : SL < rl → SL = 40 := by omega
  have HSL3 : Aside (SL < rl → SL = 40) := hSL3
  clear hSL hSL3
  go_upto_block 0 with fail
  go_cut [7] (fun s7 wx => ∃ (sa : Option Addr) (sc : Nat), s7 = .slice sa SL sc ∧ IsL wx sa SL rs ∧ Below W.heap.size W wx)
  · go_wp2_with fail
    go_loopg [7, 8] SL (fun f v7 v8 wr => ∃ (k : Nat) (sa : Option Addr) (sc : Nat), v8 = .int .i64 k ∧ v7 = .slice sa k sc ∧ k + f = SL ∧ wr.ownsRow W.heap.size 3 1 (.slice sa k sc) k ((List.range k).map fun q => .int .i64 (rs q)) ∧ Below W.heap.size W wr)
    case atStart => exact ⟨0, none, 0, rfl, rfl, by omega, World.ownsRow_nil _ _ _ _, Below.refl _ _⟩
    case round =>
      obtain ⟨k, sa, sc, rfl, rfl, hk, hown, hbx⟩ := hrel
      have HO : Aside (wr.ownsRow W.heap.size 3 1 (.slice sa k sc) k ((List.range k).map fun q => .int .i64 (rs q))) := hown
      have HBX : Aside (Below W.heap.size W wr) := hbx
      clear hown hbx
      by_cases hend : k < SL
      · have h1 : (k : Int) < rl := by omega
        have h2 : (k : Int) < 40 := by omega
        obtain ⟨b, o, rfl, hc⟩ : ∃ b o, ra = some ⟨b, o, none⟩ ∧ wr.cell? ⟨b, o + k, none⟩ = some (.int .i64 (rv k)) := by
          rcases (HRMW.out.below HBX.out) with h0 | ⟨b, o, rfl, h⟩
          · omega
          · exact ⟨b, o, rfl, h k (by omega)⟩
        obtain ⟨z0, z1⟩ := HRB.out k (by omega)
        obtain ⟨f, rfl⟩ : ∃ f, gk = f + 1 := ⟨gk - 1, by omega⟩
        obtain ⟨Z, hZ⟩ : ∃ Z, Z = rs k := ⟨_, rfl⟩
        have hm := mod_any (rv k) n z0 z1 (by omega) (by omega) wr
        rw [← HRS.out k, ← hZ] at hm
        have HM : Aside (Calls Try.prog 28 #[.int .i64 (rv k), .int .i64 n] wr fun e w' => e = .returned (.int .i64 Z) ∧ wr = w') := hm
        have HZ : Aside (Z = rs k) := hZ
        clear hm hZ
        go_wp2_with (first
          | (go_at_call 28; refine HM.out.mono ?_; rintro e w' ⟨rfl, rfl⟩)
          | (at_builtin; refine wpList_append_own _ rfl (.tmp 33) (.tmp 40) 26 rfl W.heap.size 3 i2 (.int .i64 0) 1 8 Try.underlying26 HI2.out.1 HI2.out.2.1 HI2.out.2.2.1 HI2.out.2.2.2 rfl (by decide) _ _ _ rfl (HO.out.alloc _) ⟨wr.heap.size, 0, none⟩ 1 1 [.int .i64 Z] rfl rfl (cells1 _ _ _) oneI (by unfold maxLen; omega) (by omega) (by have := HBX.out.size; simp; omega) ?_; intro v' w5 hown' hgrow _; obtain ⟨sa', sc', rfl⟩ := own_slice hown'; have HB5 : Aside (Below W.heap.size W w5) := (HBX.out.alloc HBX.out.size _).grown hgrow (by have := HBX.out.size; simp; omega) (fun k' e => (HO.out.lt k' e).1)))
        go_roundg f
        case measure => omega
        case rel => exact ⟨k + 1, sa', sc', by simp, by simp, by omega, by rw [range_snoc, ← HZ.out]; exact hown', HB5.out⟩
      · have hkS : k = SL := by omega
        subst hkS
        have HST : Aside (IsL wr sa k rs) := own_isL HO.out
        clear HO
        by_cases hkr : (k : Int) < rl
        · have h40 : (40 : Int) ≤ k := by have := HSL3.out (by omega); omega
          go_wp2_with fail
          go_meet
          exact ⟨sa, sc, rfl, HST.out, HBX.out⟩
        · go_wp2_with fail
          go_meet
          exact ⟨sa, sc, rfl, HST.out, HBX.out⟩
  obtain ⟨sa, sc, rfl, hst, hbx⟩ := hcut
  have HST : Aside (IsL wc sa SL rs) := hst
  obtain ⟨Wa, hWa⟩ : ∃ Wa : World, Wa = wc := ⟨_, rfl⟩
  rw [← hWa] at HST hbx ⊢
  clear hWa
  have d0 := (hbx.cell (p := ⟨_, _, _⟩) (lt_of_cell c0)).trans c0
  have d1 := (hbx.cell (p := ⟨_, _, _⟩) (lt_of_cell c1)).trans c1
  have HI : Aside (BIs Wa lb 0 mb 0 n lost P (fun _ => 0) C len mv) := HIW.out.below hbx
  have hbw := below_next hbW hbx
  clear HIW HRMW c0 c1 hbW hst hbx HI2 HRS HRB
  go_wp2_with fail
  refine (safe_ok HV.out Wa HI.out).mono ?_
  rintro e w2 ⟨a, s, rfl, hrow, -, hb2, hS⟩
  have HS : Aside (IsSafe n lost len mv s) := hS
  have HROW2 : Aside (∀ i, i < n → w2.cell? ⟨a, i, none⟩ = some (.bool (s i))) := hrow
  have e0 := (hb2.cell (p := ⟨_, _, _⟩) (lt_of_cell d0)).trans d0
  have e1 := (hb2.cell (p := ⟨_, _, _⟩) (lt_of_cell d1)).trans d1
  have HI2 : Aside (BIs w2 lb 0 mb 0 n lost P (fun _ => 0) C len mv) := HI.out.below hb2
  have HST2 : Aside (IsL w2 sa SL rs) := HST.out.below hb2
  have hbw2 := below_next hbw hb2
  clear hS hrow hb2 d0 d1 HI HST hbw
  go_wp2_with fail
  refine (checkBlow_ok HV.out w2 HI2.out).mono ?_
  rintro e w3 ⟨rfl, hb3⟩
  have HROW : Aside (∀ i, i < n → w3.cell? ⟨a, i, none⟩ = some (.bool (s i))) := fun i hi => (hb3.cell (p := ⟨_, _, _⟩) (lt_of_cell (HROW2.out i hi))).trans (HROW2.out i hi)
  have f0 := (hb3.cell (p := ⟨_, _, _⟩) (lt_of_cell e0)).trans e0
  have f1 := (hb3.cell (p := ⟨_, _, _⟩) (lt_of_cell e1)).trans e1
  have HI3 : Aside (BIs w3 lb 0 mb 0 n lost P (fun _ => 0) C len mv) := HI2.out.below hb3
  have HST3 : Aside (IsL w3 sa SL rs) := HST2.out.below hb3
  have hbw3 := below_next hbw2 hb3
  have HF0 : Aside (w3.cell? ⟨bb, 0, none⟩ = some (.slice (some ⟨lb, 0, none⟩) n lc)) := f0
  have HF1 : Aside (w3.cell? ⟨bb, 1, none⟩ = some (.slice (some ⟨mb, 0, none⟩) n mc)) := f1
  clear hb3 e0 e1 HI2 HST2 hbw2 HROW2 f0 f1
  go_wp2_with fail
  go_loopg [10] n (fun f v10 wr => ∃ i : Nat, v10 = .int .i64 i ∧ i + f = n ∧ Below w3.heap.size w3 wr)
  case atStart => exact ⟨0, rfl, by omega, Below.refl _ _⟩
  case round =>
    obtain ⟨i, rfl, hi, hbx⟩ := hrel
    have HBX : Aside (Below w3.heap.size w3 wr) := hbx
    clear hbx
    by_cases hend : i < n
    · have hend' : (i : Int) < n := by omega
      obtain ⟨f, rfl⟩ : ∃ f, gk = f + 1 := ⟨gk - 1, by omega⟩
      have g1 := (HBX.out.cell (p := ⟨_, _, _⟩) (lt_of_cell HF1.out)).trans HF1.out
      have hm := (HI3.out.below HBX.out).moves0 hend
      have hl4 := HV.out.l2 i hend
      obtain ⟨L, hL⟩ : ∃ L, L = len i := ⟨_, rfl⟩
      have HL : Aside (L = len i) := hL
      rw [← hL] at hm hl4
      clear hL
      go_wp2_with fail
      go_loopg [11, 12] L (fun g v11 v12 wx => ∃ k : Nat, v12 = .int .i64 k ∧ v11 = .bool (anyT (fun q => s (mv i q).toNat) k) ∧ k + g = L ∧ wr = wx)
      case atStart => exact ⟨0, rfl, rfl, by omega, rfl⟩
      case round =>
        obtain ⟨k, rfl, rfl, hk, rfl⟩ := hrel
        by_cases hke : k < L
        · have hke' : (k : Int) < L := by omega
          obtain ⟨g, rfl⟩ : ∃ g, gk = g + 1 := ⟨gk - 1, by omega⟩
          obtain ⟨X, hX⟩ : ∃ X : Nat, mv i k = (X : Int) := ⟨(mv i k).toNat, by have := HV.out.m0 i k hend (by rw [← HL.out]; exact hke); omega⟩
          have hXn : X < n := by have := HV.out.m1 i k hend (by rw [← HL.out]; exact hke); omega
          have hXn' : (X : Int) < n := by omega
          have h2 := (HI3.out.below HBX.out).mv0 hend (show k < len i by rw [← HL.out]; exact hke)
          rw [hX] at h2
          have h3 := (HBX.out.cell (p := ⟨_, _, _⟩) (lt_of_cell (HROW.out X hXn))).trans (HROW.out X hXn)
          obtain ⟨y, hy⟩ : ∃ y, y = anyT (fun q => s (mv i q).toNat) k := ⟨_, rfl⟩
          have HN : Aside (anyT (fun q => s (mv i q).toNat) (k + 1) = (y || s X)) := by
            show (anyT (fun q => s (mv i q).toNat) k || s (mv i k).toNat) = _
            rw [hX, Int.toNat_natCast, ← hy]
          rw [← hy]
          clear hy hX
          cases y
          · go_wp2_with fail
            go_roundg g
            case measure => omega
            case rel => exact ⟨k + 1, by simp, by rw [HN.out]; rfl, by omega, rfl⟩
          · go_wp2_with fail
            go_roundg g
            case measure => omega
            case rel => exact ⟨k + 1, by simp, by rw [HN.out]; rfl, by omega, rfl⟩
        · have hke' : ¬ (k : Int) < L := by omega
          have hkL : k = L := by omega
          subst hkL
          have hfix := safe_fix HS.out hend
          rw [← HL.out] at hfix
          obtain ⟨y, hy⟩ : ∃ y, y = anyT (fun q => s (mv i q).toNat) k := ⟨_, rfl⟩
          obtain ⟨z, hz⟩ : ∃ z, z = lost i := ⟨_, rfl⟩
          obtain ⟨x, hx⟩ : ∃ x, x = s i := ⟨_, rfl⟩
          have h3 := (HBX.out.cell (p := ⟨_, _, _⟩) (lt_of_cell (HROW.out i hend))).trans (HROW.out i hend)
          have h4 := (HI3.out.below HBX.out).lost0 hend
          have g0 := (HBX.out.cell (p := ⟨_, _, _⟩) (lt_of_cell HF0.out)).trans HF0.out
          rw [← hy, ← hz, ← hx] at hfix
          rw [← hx] at h3
          rw [← hz] at h4
          have HX : Aside (x = s i) := hx
          rw [← hy]
          clear hy hz hx hl4
          go_upto_region 19 with fail
          go_cut [95] (fun s95 wx => s95 = .bool false ∧ Below wr.heap.size wr wx)
          · have hB : ∀ m, Below wr.heap.size wr (wr.drewN m) := fun m => below_drewN m _
            have HD : Aside (∀ m, Below wr.heap.size wr (wr.drewN m)) := hB
            clear hB
            cases y
            · have hx0 : x = false := by rw [hfix]; rfl
              subst hx0
              clear hfix
              go_quiet (fail)
              go_wp2_with fail
              go_meet
              exact ⟨rfl, HD.out _⟩
            · cases z
              · have hx0 : x = true := by rw [hfix]; rfl
                subst hx0
                clear hfix
                go_quiet (fail)
                go_wp2_with fail
                go_meet
                exact ⟨rfl, HD.out _⟩
              · have hx0 : x = false := by rw [hfix]; rfl
                subst hx0
                clear hfix
                go_quiet (fail)
                go_wp2_with fail
                go_meet
                exact ⟨rfl, HD.out _⟩
          obtain ⟨rfl, hby⟩ := hcut
          have HBY : Aside (Below w3.heap.size w3 wc) := HBX.out.trans (hby.mono HBX.out.size)
          obtain ⟨wd, hwd⟩ : ∃ wd : World, wd = wc := ⟨_, rfl⟩
          rw [← hwd] at HBY ⊢
          clear hwd hby h3 h4 g0 g1 hm HBX hfix
          have g0 := (HBY.out.cell (p := ⟨_, _, _⟩) (lt_of_cell HF0.out)).trans HF0.out
          have g1 := (HBY.out.cell (p := ⟨_, _, _⟩) (lt_of_cell HF1.out)).trans HF1.out
          have HI4 : Aside (BIs wd lb 0 mb 0 n lost P (fun _ => 0) C len mv) := HI3.out.below HBY.out
          go_wp2_with fail
          refine (way_ok HV.out i hend wd HI4.out).mono ?_
          rintro e w5 ⟨s', hS', hb5, hway⟩
          have hss : s' i = s i := hS'.unique HS.out i hend
          have HB5 : Aside (Below w3.heap.size w3 w5) := HBY.out.trans (hb5.mono HBY.out.size)
          have h3 := (HB5.out.cell (p := ⟨_, _, _⟩) (lt_of_cell (HROW.out i hend))).trans (HROW.out i hend)
          rw [hss] at hway
          rw [← HX.out] at h3 hway
          have HSS : Aside (IsSafe n lost len mv s') := hS'
          clear hS' hss hb5 g0 g1 HBY
          rcases hway with ⟨rfl, rfl⟩ | ⟨rfl, K, wa, wcp, hT, hcp, hK64, rfl, hL5⟩
          · go_wp2_with fail
            go_loopg [14] 0 (fun g v14 wx => v14 = .int .i64 0 ∧ w5 = wx)
            case atStart => exact ⟨rfl, rfl⟩
            case round =>
              obtain ⟨rfl, rfl⟩ := hrel
              have HBw : Aside (∀ m, Below w3.heap.size w3 (w5.drewN m)) := fun m => HB5.out.trans (below_drewN m _)
              go_wp2_with fail
              go_quiet (fail)
              go_wp2_with fail
              go_roundg f
              case measure => omega
              case rel => exact ⟨i + 1, by simp, by omega, HBw.out _⟩
          · have HT : Aside (Turns s' len mv i K) := hT
            have HL5 : Aside (IsL w5 wa (K + 1) (pthI s' len mv i)) := hL5
            have hK1 : 1 ≤ K := by
              rcases Nat.eq_zero_or_pos K with h | h
              · subst h; have := hT.back; simp [hasB] at this
              · exact h
            clear hT hL5
            obtain ⟨bw, ow, rfl, hcw⟩ : ∃ b o, wa = some ⟨b, o, none⟩ ∧ ∀ k, k < K + 1 → w5.cell? ⟨b, o + k, none⟩ = some (.int .i64 (pthI s' len mv i k)) := by
              rcases HL5.out with h0 | h
              · omega
              · exact h
            have HCW : Aside (∀ k, k < K + 1 → w5.cell? ⟨bw, ow + k, none⟩ = some (.int .i64 (pthI s' len mv i k))) := hcw
            have hK2 : (1 : Int) < (K : Int) + 1 := by omega
            clear hcw
            go_wp2_with fail
            go_loopg [14] (K + 1) (fun g v14 wx => ∃ k : Nat, v14 = .int .i64 k ∧ k + g = K + 1 ∧ Below w5.heap.size w5 wx)
            case atStart => exact ⟨0, rfl, by omega, Below.refl _ _⟩
            case round =>
              obtain ⟨k, rfl, hk, hbx⟩ := hrel
              have HB6 : Aside (Below w5.heap.size w5 wr) := hbx
              have HB7 : Aside (Below w3.heap.size w3 wr) := HB5.out.trans (hbx.mono HB5.out.size)
              clear hbx
              by_cases hke : k < K + 1
              · have hke' : (k : Int) < (K : Int) + 1 := by omega
                obtain ⟨g, rfl⟩ : ∃ g, gk = g + 1 := ⟨gk - 1, by omega⟩
                obtain ⟨hXn, hXs⟩ := pth_ok HV.out HSS.out hend (by rw [HSS.out.unique HS.out i hend, ← HX.out]) k
                obtain ⟨X, hX⟩ : ∃ X, X = pth s' len mv i k := ⟨_, rfl⟩
                have HXX : Aside (X = pth s' len mv i k) := hX
                rw [← hX] at hXn hXs
                have hc1 := (HB6.out.cell (p := ⟨_, _, _⟩) (lt_of_cell (HCW.out k hke))).trans (HCW.out k hke)
                rw [show pthI s' len mv i k = (X : Int) by unfold pthI; rw [hX]] at hc1
                have g0 := (HB7.out.cell (p := ⟨_, _, _⟩) (lt_of_cell HF0.out)).trans HF0.out
                have g1 := (HB7.out.cell (p := ⟨_, _, _⟩) (lt_of_cell HF1.out)).trans HF1.out
                have h4 := (HI3.out.below HB7.out).lost0 hXn
                rw [(HSS.out.post X hXn hXs).1] at h4
                have q1 : decide ((X : Int) < 0) = false := by simp
                have q2 : decide ((n : Int) ≤ (X : Int)) = false := by simp; omega
                have q3 : decide (n ≤ X) = false := by simp; omega
                have q4 : (X : Int) < n := by omega
                have HBw : Aside (∀ m, Below w5.heap.size w5 (wr.drewN m)) := fun m => HB6.out.trans (below_drewN m _)
                clear hX
                cases k with
                | zero =>
                  have hXi : X = i := HXX.out
                  subst hXi
                  rw [Nat.add_zero] at hc1
                  go_upto_region 27 with fail
                  go_quiet (fail)
                  go_wp2_with fail
                  go_roundg g
                  case measure => omega
                  case rel => exact ⟨1, rfl, by omega, HBw.out _⟩
                | succ j =>
                  obtain ⟨hYn, hYs⟩ := pth_ok HV.out HSS.out hend (by rw [HSS.out.unique HS.out i hend, ← HX.out]) j
                  obtain ⟨Y, hY⟩ : ∃ Y, Y = pth s' len mv i j := ⟨_, rfl⟩
                  rw [← hY] at hYn hYs
                  have hc2 := (HB6.out.cell (p := ⟨_, _, _⟩) (lt_of_cell (HCW.out j (by omega)))).trans (HCW.out j (by omega))
                  rw [show pthI s' len mv i j = (Y : Int) by unfold pthI; rw [hY]] at hc2
                  have h5 := (HI3.out.below HB7.out).moves0 hYn
                  obtain ⟨q, hq, -, hmq, -, -⟩ := nxt_ok HV.out HSS.out hYn hYs
                  have hXY : nxt s' len mv Y = X := by rw [HXX.out, hY]; rfl
                  rw [hXY] at hmq
                  obtain ⟨M, hM⟩ : ∃ M, M = len Y := ⟨_, rfl⟩
                  have hMl : M ≤ 4 := by rw [hM]; exact HV.out.l2 Y hYn
                  have hHas : ∀ w2, Below wr.heap.size wr w2 → Calls Try.prog 29 #[.slice (some ⟨P Y, 0, none⟩) M (C Y), .int .i64 (X : Int)] w2 fun e w' => e = .returned (.bool true) ∧ w2 = w' := by
                    intro w2 hb2
                    have h := hasInt_l (some ⟨P Y, 0, none⟩) M (C Y) (mv Y) (X : Int) w2 (by omega) (.inr ⟨_, _, rfl, fun k hk => by rw [Nat.zero_add]; exact ((HI3.out.below HB7.out).below hb2).mv0 hYn (by rw [← hM]; exact hk)⟩)
                    rw [(hasB_iff (mv Y) (X : Int) M).2 ⟨q, by rw [hM]; exact hq, hmq⟩] at h
                    exact h
                  have hHas2 : ∀ m, Calls Try.prog 29 #[.slice (some ⟨P Y, 0, none⟩) M (C Y), .int .i64 (X : Int)] (wr.drewN m) fun e w' => e = .returned (.bool true) ∧ w' = wr.drewN m := fun m => (hHas _ (below_drewN m _)).mono fun _ _ ⟨h, k⟩ => ⟨h, k.symm⟩
                  have HH : Aside (∀ m, Calls Try.prog 29 #[.slice (some ⟨P Y, 0, none⟩) M (C Y), .int .i64 (X : Int)] (wr.drewN m) fun e w' => e = .returned (.bool true) ∧ w' = wr.drewN m) := hHas2
                  rw [← hM] at h5
                  have hYn' : (Y : Int) < n := by omega
                  have q5 : ((j : Int) + 1 == 0) = false := by simp; omega
                  have q6 : decide ((0 : Int) < (j : Int) + 1) = true := by simp
                  have hj1 : (j : Int) < (K : Int) + 1 := by omega
                  have hj2 : (j : Int) + 1 < (K : Int) + 1 := by omega
                  clear hHas hHas2 hY hM hq hmq hXY hXs hYs
                  have m1 : IntKind.i64.wrap ((j : Int) + 1 - 1) = (j : Int) := by rw [show (j : Int) + 1 - 1 = (j : Int) by omega]; exact IntWalk.i64_in _ (by omega)
                  have m2 : IntKind.i64.wrap (j : Int) = (j : Int) := IntWalk.i64_in _ (by omega)
                  go_upto_region 27 with fail
                  go_quiet ((go_at_call 29; exact Calls.quiet_of_same (HH.out _)))
                  clear m1 m2
                  go_wp2_with fail
                  go_roundg g
                  case measure => omega
                  case rel => exact ⟨j + 1 + 1, by simp, by omega, HBw.out _⟩
              · have hke' : ¬ (k : Int) < (K : Int) + 1 := by omega
                have HBw : Aside (∀ m, Below w3.heap.size w3 (wr.drewN m)) := fun m => HB7.out.trans (below_drewN m _)
                have hHas : ∀ m, Calls Try.prog 29 #[.slice (some ⟨bw, ow, none⟩) K wcp, .int .i64 (pthI s' len mv i K)] (wr.drewN m) fun e w' => e = .returned (.bool true) ∧ w' = wr.drewN m := by
                  intro m
                  have hb2 : Below w5.heap.size w5 (wr.drewN m) := HB6.out.trans (below_drewN m _)
                  have h := hasInt_l (some ⟨bw, ow, none⟩) K wcp (pthI s' len mv i) (pthI s' len mv i K) (wr.drewN m) (by omega) (.inr ⟨_, _, rfl, fun k hk => (hb2.cell (p := ⟨_, _, _⟩) (lt_of_cell (HCW.out k (by omega)))).trans (HCW.out k (by omega))⟩)
                  rw [HT.out.back] at h
                  exact h.mono fun _ _ ⟨h, k⟩ => ⟨h, k.symm⟩
                have hc1 := (HB6.out.cell (p := ⟨_, _, _⟩) (lt_of_cell (HCW.out K (by omega)))).trans (HCW.out K (by omega))
                obtain ⟨V, hV⟩ : ∃ V, V = pthI s' len mv i K := ⟨_, rfl⟩
                rw [← hV] at hHas hc1
                have HH : Aside (∀ m, Calls Try.prog 29 #[.slice (some ⟨bw, ow, none⟩) K wcp, .int .i64 V] (wr.drewN m) fun e w' => e = .returned (.bool true) ∧ w' = wr.drewN m) := hHas
                have q6 : decide ((0 : Int) < (K : Int) + 1) = true := by simp
                have q7 : (K : Int) < (K : Int) + 1 := by omega
                have q8 : (K : Int) ≤ (wcp : Int) := by omega
                have q9 : K ≤ wcp := by omega
                clear hHas hV
                have m1 : IntKind.i64.wrap ((K : Int) + 1 - 1) = (K : Int) := by rw [show (K : Int) + 1 - 1 = (K : Int) by omega]; exact IntWalk.i64_in _ (by omega)
                have m2 : IntKind.i64.wrap (K : Int) = (K : Int) := IntWalk.i64_in _ (by omega)
                go_upto_region 29 with fail
                go_quiet ((go_at_call 29; exact Calls.quiet_of_same (HH.out _)))
                clear m1 m2
                go_wp2_with fail
                go_roundg f
                case measure => omega
                case rel => exact ⟨i + 1, by simp, by omega, HBw.out _⟩
    · have hend' : ¬ (i : Int) < n := by omega
      have g0 := (HBX.out.cell (p := ⟨_, _, _⟩) (lt_of_cell HF0.out)).trans HF0.out
      have g1 := (HBX.out.cell (p := ⟨_, _, _⟩) (lt_of_cell HF1.out)).trans HF1.out
      have HI4 : Aside (BIs wr lb 0 mb 0 n lost P (fun _ => 0) C len mv) := HI3.out.below HBX.out
      have HST4 : Aside (IsL wr sa SL rs) := HST3.out.below HBX.out
      go_wp2_with fail
      refine (chance_ok HV.out sa SL sc rs (by omega) (fun k _ => (HRS0.out k).1) (fun k _ => (HRS0.out k).2) wr HI4.out HST4.out).mono ?_
      rintro e w5 ⟨s', hS', rfl, hb5⟩
      have HROW5 : Aside (∀ i, i < n → w5.cell? ⟨a, i, none⟩ = some (.bool (s' i))) := fun i hi => by
        have hb := below_next HBX.out hb5
        rw [hS'.unique HS.out i hi]
        exact (hb.cell (p := ⟨_, _, _⟩) (lt_of_cell (HROW.out i hi))).trans (HROW.out i hi)
      have HST5 : Aside (IsL w5 sa SL rs) := HST4.out.below hb5
      have hbw5 : Below w.heap.size w w5 := below_next hbw3 (below_next HBX.out hb5)
      clear hS' hb5 g0 g1 HI4 HST4 HBX hbw3
      rcases lastC_cases s' rs SL with ⟨h1, h2⟩ | ⟨k, hk, h1, h2, h3⟩
      · have e1 : chI s' rs SL = 0 := by rw [chI, if_pos h1]
        have e2 : chB s' rs SL = false := by rw [chB, h1]; rfl
        rw [e1, e2]
        have H2 : Aside (∀ k, k < SL → s' (rs k).toNat = false) := h2
        clear h1 h2 e1 e2
        go_wp2_with fail
        go_loopg [17] SL (fun g v17 wx => ∃ j : Nat, v17 = .int .i64 j ∧ j + g = SL ∧ w5 = wx)
        case atStart => exact ⟨0, rfl, by omega, rfl⟩
        case round =>
          obtain ⟨j, rfl, hj, rfl⟩ := hrel
          by_cases hje : j < SL
          · have hje' : (j : Int) < SL := by omega
            obtain ⟨g, rfl⟩ : ∃ g, gk = g + 1 := ⟨gk - 1, by omega⟩
            obtain ⟨b, o, rfl, hc⟩ : ∃ b o, sa = some ⟨b, o, none⟩ ∧ w5.cell? ⟨b, o + j, none⟩ = some (.int .i64 (rs j)) := by
              rcases HST5.out with h0 | ⟨b, o, rfl, h⟩
              · omega
              · exact ⟨b, o, rfl, h j hje⟩
            obtain ⟨x0, x1⟩ := HRS0.out j
            obtain ⟨X, hX⟩ : ∃ X : Nat, rs j = (X : Int) := ⟨(rs j).toNat, by omega⟩
            have hXn : X < n := by omega
            have hXn' : (X : Int) < n := by omega
            have hr := HROW5.out X hXn
            have hx := H2.out j hje
            rw [hX] at hc
            rw [hX, Int.toNat_natCast] at hx
            rw [hx] at hr
            clear hx hX x0 x1
            go_wp2_with fail
            go_roundg g
            case measure => omega
            case rel => exact ⟨j + 1, by simp, by omega, rfl⟩
          · have hje' : ¬ (j : Int) < SL := by omega
            go_wp2_with (go_at_call 8; refine (awake10 _).mono ?_; rintro e w6 ⟨rfl, hb6⟩)
            go_ret
            exact ⟨rfl, below_next hbw5 hb6⟩
      · have e1 : chI s' rs SL = (k : Int) := by rw [chI, h1, if_neg (by omega)]
        have e2 : chB s' rs SL = true := by
          have : ¬ (k : Int) = -1 := by omega
          rw [chB, h1]; simp [this]
        rw [e1, e2]
        have H3 : Aside (∀ j, k < j → j < SL → s' (rs j).toNat = false) := h3
        clear h1 h3 e1 e2
        have hk' : (k : Int) < SL := by omega
        obtain ⟨b, o, rfl, hcs⟩ : ∃ b o, sa = some ⟨b, o, none⟩ ∧ ∀ j, j < SL → w5.cell? ⟨b, o + j, none⟩ = some (.int .i64 (rs j)) := by
          rcases HST5.out with h0 | h
          · omega
          · exact h
        have HCS : Aside (∀ j, j < SL → w5.cell? ⟨b, o + j, none⟩ = some (.int .i64 (rs j))) := hcs
        obtain ⟨x0, x1⟩ := HRS0.out k
        obtain ⟨X, hX⟩ : ∃ X : Nat, rs k = (X : Int) := ⟨(rs k).toNat, by omega⟩
        have hXn : X < n := by omega
        have hXn' : (X : Int) < n := by omega
        have hr := HROW5.out X hXn
        have hc := hcs k hk
        rw [hX] at hc
        rw [hX, Int.toNat_natCast] at h2
        rw [h2] at hr
        clear hcs h2 hX x0 x1
        go_wp2_with fail
        clear hc hr
        go_loopg [17] SL (fun g v17 wx => ∃ j : Nat, v17 = .int .i64 j ∧ j + g = SL ∧ w5 = wx)
        case atStart => exact ⟨0, rfl, by omega, rfl⟩
        case round =>
          obtain ⟨j, rfl, hj, rfl⟩ := hrel
          by_cases hje : j < SL
          · have hje' : (j : Int) < SL := by omega
            obtain ⟨g, rfl⟩ : ∃ g, gk = g + 1 := ⟨gk - 1, by omega⟩
            have hc := HCS.out j hje
            obtain ⟨x0, x1⟩ := HRS0.out j
            obtain ⟨Y, hY⟩ : ∃ Y : Nat, rs j = (Y : Int) := ⟨(rs j).toNat, by omega⟩
            have hYn : Y < n := by omega
            have hYn' : (Y : Int) < n := by omega
            have hr := HROW5.out Y hYn
            rw [hY] at hc
            by_cases hjk : k < j
            · have hx := H3.out j hjk hje
              rw [hY, Int.toNat_natCast] at hx
              rw [hx] at hr
              clear hx hY x0 x1 hjk
              go_wp2_with fail
              go_roundg g
              case measure => omega
              case rel => exact ⟨j + 1, by simp, by omega, rfl⟩
            · have hjk' : (j : Int) ≤ k := by omega
              obtain ⟨y, hy⟩ : ∃ y, y = s' Y := ⟨_, rfl⟩
              rw [← hy] at hr
              clear hy hY x0 x1
              cases y
              · go_wp2_with fail
                go_roundg g
                case measure => omega
                case rel => exact ⟨j + 1, by simp, by omega, rfl⟩
              · go_wp2_with fail
                go_roundg g
                case measure => omega
                case rel => exact ⟨j + 1, by simp, by omega, rfl⟩
          · have hje' : ¬ (j : Int) < SL := by omega
            go_wp2_with (go_at_call 8; refine (awake10 _).mono ?_; rintro e w6 ⟨rfl, hb6⟩)
            go_ret
            exact ⟨rfl, below_next hbw5 hb6⟩
theorem chance_row (w : World) (a0 : Option Addr) (l0 c0 : Nat) (z0 : List Int) (h0 : IsRow w a0 l0 c0 z0) (a1 : Option Addr) (l1 c1 : Nat) (z1 : List Int) (h1 : IsRow w a1 l1 c1 z1) :
    Calls Try.prog 6 #[.slice a0 l0 c0, .slice a1 l1 c1] w fun e w' => e = .returned (.bool true) ∧ Below w.heap.size w w' := by
  obtain ⟨p1, p2, p3⟩ := isL_of_row h0
  obtain ⟨q1, q2, q3⟩ := isL_of_row h1
  exact chance_any w a0 l0 c0 _ p2 p1 p3 a1 l1 c1 _ q2 q1 q3
set_option maxRecDepth 100000 in
theorem liftedHouseChance (os : Os) (started : os.Started) (H : Type) (enc : TypeId × Value → H) :
    ReturnsInHanded {} Try.checked os 6 .any (Rows.houseChanceSpec.pre6 enc Try.prog Try.f6 Rows.houseChanceRow.domain false) (Rows.houseChanceSpec.post enc Try.prog Try.f6 false true false false) := by
  refine returnsInHanded_of_change (C := Try.checked) own started (by kernel_rfl) Try.func6
    (ChangeSpec.witness6 (enc := enc) (C := Try.checked) false ⟨#[], #[.slice none 0 0, .slice none 0 0], []⟩ 16 (by kernel_rfl) (by kernel_rfl) (by kernel_rfl) (by kernel_rfl)) ?_
  intro W base args ds gs before hval0 hW hcnd _
  have hval : ∀ (j : Nat) t v, Try.f6.params[j]? = some t → args[j]? = some v → Value.okWide Try.prog W .any base t v := hval0
  have hW' := hW
  obtain ⟨p, q, hA0, hV, rfl, hfz, hnd⟩ := hW
  have hA : DataW.TrodAll enc Try.prog W 0 (fun _ => true) true Try.f6.params.toList args.toList ds p := hA0
  rw [Try.params6] at hA hval
  obtain ⟨v0, vs0, d0, ds0, p0, q0, hargs, rfl, rfl, h0, r0⟩ := trodAll_cons hA
  obtain ⟨v1, vs1, d1, ds1, p1, q1, rfl, rfl, rfl, h1, r1⟩ := trodAll_cons r0
  obtain ⟨rfl, rfl, rfl⟩ := trodAll_nil r1
  obtain rfl : args = #[v0, v1] := by cases args; simp_all
  obtain ⟨rfl, rfl⟩ := trodVars_none hV
  have k0 := h0
  have lt0 : ∀ x ∈ p0, x.block < W.heap.size := by obtain ⟨m, hm⟩ := k0; exact DataW.trod_lt m _ _ _ hm
  obtain ⟨a0, len0, cap0, z0, rfl, w0⟩ := val_ints Try.underlying26 Try.underlying3 (by kernel_rfl) (hval 0 _ v0 rfl rfl) h0
  have k1 := h1
  have lt1 : ∀ x ∈ p1, x.block < W.heap.size := by obtain ⟨m, hm⟩ := k1; exact DataW.trod_lt m _ _ _ hm
  obtain ⟨a1, len1, cap1, z1, rfl, w1⟩ := val_ints Try.underlying26 Try.underlying3 (by kernel_rfl) (hval 1 _ v1 rfl rfl) h1
  clear hA0 hval0
  refine (chance_row W a0 len0 cap0 z0 w0 a1 len1 cap1 z1 w1).mono fun e W' ⟨he, bel⟩ => ?_
  subst he
  exact ⟨_, rfl, _, _, _, [], _, [], hW', trodAll_mk1 (shut_bool Try.underlying4 _), (trodAll_cons_mk (Below.trod laidOut (by kernel_rfl) (of_decide_eq_true (by kernel_rfl)) k0 bel lt0) (trodAll_cons_mk (Below.trod laidOut (by kernel_rfl) (of_decide_eq_true (by kernel_rfl)) k1 bel lt1) trodAll_mk0)), rfl, bel.frame _, fun h => by cases h⟩

/-- HouseChance returns true for every input. -/
theorem houseChance_holds : Rows.HouseChanceSaid :=
  OpenClaim.holds_of_wide 6 Try.f6 rfl rfl rfl rfl rfl rfl rfl ⟨rfl, rfl, rfl, rfl, rfl⟩ rfl rfl rfl rfl rfl (by kernel_rfl) Try.func6 (by kernel_rfl)
    (of_decide_eq_true (by kernel_rfl)) (by unfold Func.isWrapper; first | (rw [if_pos (by decide +kernel)]; kernel_rfl) | (rw [if_neg (by decide +kernel)]; exact ⟨rfl, rfl⟩))
    (fun os started H enc _ => liftedHouseChance os started H enc)

end Go.Proofs.Ytgohbjlfgiohiaa
