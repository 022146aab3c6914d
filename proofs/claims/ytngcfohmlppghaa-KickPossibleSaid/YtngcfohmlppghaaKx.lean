/- A greater kick is not noticed later, nor any one by a better sensor. -/
import Derived.Test.YtngcfohmlppghaaKv
namespace Go.Proofs.Ytngcfohmlppghaa
open Go.RowKit

theorem half_nonneg {n : Int} (h : 0 ≤ n) : 0 ≤ n * (n - 1) / 2 := by
  by_cases h0 : n = 0
  · subst h0; decide
  · exact Int.ediv_nonneg (Int.mul_nonneg h (by omega)) (by omega)
theorem say_mono {c r g r' g' t : Int} (hr : r ≤ r') (hg : g ≤ g') : sayV c r g t ≤ sayV c r' g' t := by
  unfold sayV flowV gainV
  by_cases h : t < 0
  · simp [h]
  · simp only [h, if_false]
    have h1 : t * g ≤ t * g' := Int.mul_le_mul_of_nonneg_left hg (by omega)
    have h2 : t * r ≤ t * r' := Int.mul_le_mul_of_nonneg_left hr (by omega)
    have h3 : g * (t * (t - 1) / 2) ≤ g' * (t * (t - 1) / 2) := Int.mul_le_mul_of_nonneg_right hg (half_nonneg (by omega))
    split <;> omega
theorem sat_mono {c n s m r g n' m' r' g' t : Int} (hr : r ≤ r') (hg : g ≤ g') (hn : n' ≤ n) (hm : m' ≤ m) (hs : 0 ≤ s) (h : satV c n s m r g t = true) : satV c n' s m' r' g' t = true := by
  simp only [satV, Bool.not_eq_true', decide_eq_false_iff_not, Int.not_lt] at *
  have h1 := say_mono (c := c) (t := t) hr hg
  have h2 := Int.mul_le_mul_of_nonneg_right hn hs
  omega
theorem firstN_mono {q q' : Int → Bool} {p ph : Int} (hq : ∀ t, q t = true → q' t = true) : ∀ f a b, firstN q p ph f a = some b → ∃ b', firstN q' p ph f a = some b' ∧ b' ≤ b ∧ a ≤ b' := by
  intro f
  induction f with
  | zero => intro a b h; simp [firstN] at h
  | succ f ih =>
    intro a b h
    simp only [firstN] at h ⊢
    by_cases h1 : ph + a * p ≤ 10000
    · rw [if_pos h1] at h ⊢
      by_cases h2 : q (ph + a * p) = true
      · rw [if_pos h2] at h
        rw [if_pos (hq _ h2)]
        cases h
        exact ⟨a, rfl, Int.le_refl _, Int.le_refl _⟩
      · rw [if_neg h2] at h
        obtain ⟨b', hb, hle, hge⟩ := ih (a + 1) b h
        by_cases h3 : q' (ph + a * p) = true
        · rw [if_pos h3]
          exact ⟨a, rfl, by omega, Int.le_refl _⟩
        · rw [if_neg h3]
          exact ⟨b', hb, hle, by omega⟩
    · rw [if_neg h1] at h
      cases h
theorem lateF_mono {q q' : Int → Bool} {p d l k d' l' k' : Int} (hq : ∀ t, q t = true → q' t = true) (ht : ∀ ph a a', 0 ≤ a' → a' ≤ a → tickV p d' l' k' ph a' ≤ tickV p d l k ph a) :
    ∀ f ph (x x' y : Int × Int × Int), x'.2.2 ≤ x.2.2 → lateF q p d l k f ph x = some y → ∃ y', lateF q' p d' l' k' f ph x' = some y' ∧ y'.2.2 ≤ y.2.2 := by
  intro f
  induction f with
  | zero => intro ph x x' y h hy; simp only [lateF] at hy ⊢; cases hy; exact ⟨x', rfl, h⟩
  | succ f ih =>
    intro ph x x' y h hy
    simp only [lateF] at hy ⊢
    cases ha : firstN q p ph 10001 0 with
    | none => rw [ha] at hy; cases hy
    | some a =>
      rw [ha] at hy
      obtain ⟨a', ha', hle, hge⟩ := firstN_mono hq _ _ _ ha
      rw [ha']
      have h1 := ht ph a a' hge hle
      refine ih (ph + 1) _ _ y ?_ hy
      repeat' split
      all_goals first | exact h1 | omega | (simp only; omega)
theorem tick_mono {p d l k d' l' k' : Int} (hp : 0 ≤ p) (hd : d' ≤ d) (hl0 : 0 ≤ l') (hl : l' ≤ l) (hk0 : 0 ≤ k') (hk : k' ≤ k) (ph a a' : Int) (ha : a' ≤ a) : tickV p d' l' k' ph a' ≤ tickV p d l k ph a := by
  unfold tickV
  have h1 : k' * (l' + 1) ≤ k * (l + 1) := Int.mul_le_mul hk (by omega) (by omega) (by omega)
  have h2 : (a' + k' * (l' + 1) - 1) * p ≤ (a + k * (l + 1) - 1) * p := Int.mul_le_mul_of_nonneg_right (by omega) hp
  omega
theorem latest_mono {c p d n s l m k r g d' n' l' m' k' r' g' : Int} (hp : 0 ≤ p) (hs : 0 ≤ s) (hd : d' ≤ d) (hl0 : 0 ≤ l') (hl : l' ≤ l) (hk0 : 0 ≤ k') (hk : k' ≤ k) (hn : n' ≤ n) (hm : m' ≤ m) (hr : r ≤ r') (hg : g ≤ g')
    (h : (latestV c p d n s l m k r g).2 = true) : (latestV c p d' n' s l' m' k' r' g').2 = true ∧ (latestV c p d' n' s l' m' k' r' g').1.2.2 ≤ (latestV c p d n s l m k r g).1.2.2 := by
  unfold latestV at *
  cases hx : latestO c p d n s l m k r g with
  | none => rw [hx] at h; simp at h
  | some x =>
    rw [hx] at h
    unfold latestO at hx
    obtain ⟨y, hy, hle⟩ := lateF_mono (q' := satV c n' s m' r' g') (d' := d') (l' := l') (k' := k') (fun t => sat_mono hr hg hn hm hs) (fun ph a a' _ ha => tick_mono hp hd hl0 hl hk0 hk ph a a' ha) _ _ _ (0, 0, -1) _ (Int.le_refl _) hx
    have hy' : latestO c p d' n' s l' m' k' r' g' = some y := hy
    rw [hy']
    simp only [decide_eq_true_eq] at h ⊢
    exact ⟨by omega, hle⟩
theorem firstN_ge {q : Int → Bool} {p ph : Int} : ∀ f a b, firstN q p ph f a = some b → a ≤ b := by
  intro f a b h
  obtain ⟨b', hb, _, hge⟩ := firstN_mono (q' := q) (fun t h => h) f a b h
  rw [h] at hb
  cases hb
  exact hge
theorem lateF_ge {q : Int → Bool} {p d l k : Int} : ∀ f ph (x y : Int × Int × Int), lateF q p d l k f ph x = some y → x.2.2 ≤ y.2.2 := by
  intro f
  induction f with
  | zero => intro ph x y h; simp only [lateF] at h; cases h; exact Int.le_refl _
  | succ f ih =>
    intro ph x y h
    simp only [lateF] at h
    cases ha : firstN q p ph 10001 0 with
    | none => rw [ha] at h; cases h
    | some a =>
      rw [ha] at h
      have h1 := ih _ _ _ h
      split at h1
      · rename_i h2
        simp only at h1
        omega
      · exact h1
theorem latest_nonneg {c p d n s l m k r g : Int} (hp : 1 ≤ p) (hd : 0 ≤ d) (hl : 0 ≤ l) (hk : 1 ≤ k) (h : (latestV c p d n s l m k r g).2 = true) : 0 ≤ (latestV c p d n s l m k r g).1.2.2 := by
  unfold latestV at *
  cases hx : latestO c p d n s l m k r g with
  | none => rw [hx] at h; simp at h
  | some x =>
    unfold latestO at hx
    obtain ⟨f, hf⟩ : ∃ f, p.toNat = f + 1 := ⟨p.toNat - 1, by omega⟩
    rw [hf] at hx
    simp only [lateF] at hx
    cases ha : firstN (satV c n s m r g) p 0 10001 0 with
    | none => rw [ha] at hx; cases hx
    | some a =>
      rw [ha] at hx
      have h1 := lateF_ge _ _ _ _ hx
      have h2 := firstN_ge _ _ _ ha
      have h3 : 0 ≤ tickV p d l k 0 a := by
        unfold tickV
        have h4 : 1 * (0 + 1) ≤ k * (l + 1) := Int.mul_le_mul hk (by omega) (by omega) (by omega)
        have h5 : 0 ≤ (a + k * (l + 1) - 1) * p := Int.mul_nonneg (by omega) (by omega)
        omega
      simp only
      split at h1
      · simp only at h1; omega
      · rename_i h4
        omega
/-- Both alarms of a sensor and of a better one, and the soonest of both. -/
theorem soon_two {S : Nat → Nat → Int} {r g : Int} (h0 : (laV S 0 r g).2 = true → 0 ≤ (laV S 0 r g).1.2.2) (h1 : (laV S 1 r g).2 = true → 0 ≤ (laV S 1 r g).1.2.2)
    (hm : (laV S 0 r g).2 = true → (laV S 1 r g).2 = true ∧ (laV S 1 r g).1.2.2 ≤ (laV S 0 r g).1.2.2) :
    soonV S r g 2 = if (laV S 1 r g).2 = true then ((laV S 1 r g).1.2.2, 0) else (0, 13) := by
  unfold soonV
  have e : soonF S r g 2 0 (-1) = if (laV S 1 r g).2 = true then (laV S 1 r g).1.2.2 else -1 := by
    simp only [soonF]
    cases hb : (laV S 1 r g).2
    · cases ha : (laV S 0 r g).2
      · simp
      · rw [hb] at hm
        have := hm ha
        simp at this
    · have h1' := h1 hb
      cases ha : (laV S 0 r g).2
      · simp
      · obtain ⟨-, h3⟩ := hm ha
        have h0' := h0 ha
        simp only [show (-1 : Int) < 0 by decide, true_or, and_self, if_true, true_and]
        rw [show (0 + 1 : Nat) = 1 from rfl]
        split <;> omega
  rw [e]
  cases hb : (laV S 1 r g).2
  · simp
  · have := h1 hb
    simp only [if_true]
    rw [if_neg (by omega)]
theorem senE_of {c p d n s l m k : Int} (hc : c = 1 ∨ c = 2) (h : sensB p d n s l m k = true) : senE c p d n s l m k = 0 := by
  unfold senE
  rw [if_pos hc, if_pos h]
theorem lateE_val {c p d n s l m k r g : Int} (h : senE c p d n s l m k = 0) (hk : kickB r g = true) : lateE c p d n s l m k r g = if (latestV c p d n s l m k r g).2 = true then ((latestV c p d n s l m k r g).1.2.2, true) else (0, false) := by
  unfold lateE
  cases hb : (latestV c p d n s l m k r g).2
  · simp
  · simp [h, hk]
theorem lateE_mono {c p d n s l m k r g d' n' l' m' k' r' g' : Int} (h : senE c p d n s l m k = 0) (h' : senE c p d' n' s l' m' k' = 0) (hk : kickB r g = true) (hk' : kickB r' g' = true)
    (hd : d' ≤ d) (hl : l' ≤ l) (hkk : k' ≤ k) (hn : n' ≤ n) (hm : m' ≤ m) (hr : r ≤ r') (hg : g ≤ g')
    (hi : (lateE c p d n s l m k r g).2 = true) : (lateE c p d' n' s l' m' k' r' g').2 = true ∧ (lateE c p d' n' s l' m' k' r' g').1 ≤ (lateE c p d n s l m k r g).1 := by
  have f := fit_of (c := c) (senE_ok h).2 hk
  have f' := fit_of (c := c) (senE_ok h').2 hk'
  rw [lateE_val h hk] at hi ⊢
  rw [lateE_val h' hk']
  cases hb : (latestV c p d n s l m k r g).2
  · rw [hb] at hi; simp at hi
  · obtain ⟨h1, h2⟩ := latest_mono (d' := d') (n' := n') (l' := l') (m' := m') (k' := k') (r' := r') (g' := g') (by have := f.hp; omega) (by have := f.hs; omega) hd (by have := f'.hl; omega) hl (by have := f'.hk; omega) hkk hn hm hr hg hb
    rw [h1]
    exact ⟨rfl, h2⟩
/-- The list of two sensors. -/
def twoS (c p d n s l m k c' p' d' n' s' l' m' k' : Int) : Nat → Nat → Int := fun i j =>
  if i = 0 then (if j = 0 then c else if j = 1 then p else if j = 2 then d else if j = 3 then n else if j = 4 then s else if j = 5 then l else if j = 6 then m else k)
  else (if j = 0 then c' else if j = 1 then p' else if j = 2 then d' else if j = 3 then n' else if j = 4 then s' else if j = 5 then l' else if j = 6 then m' else k')
theorem twoS_sens {c p d n s l m k c' p' d' n' s' l' m' k' : Int} (h : senE c p d n s l m k = 0) (h' : senE c' p' d' n' s' l' m' k' = 0) : sensE (twoS c p d n s l m k c' p' d' n' s' l' m' k') 2 = 0 := by
  have e0 : eOf (twoS c p d n s l m k c' p' d' n' s' l' m' k') 0 = 0 := h
  have e1 : eOf (twoS c p d n s l m k c' p' d' n' s' l' m' k') 1 = 0 := h'
  simp [sensE, firstE, e0, e1]
/-- The soonest of a sensor and of a better one is that of the better one. -/
theorem twoS_soon {c p d n s l m k r g d' n' l' m' k' : Int} (h : senE c p d n s l m k = 0) (h' : senE c p d' n' s l' m' k' = 0) (hk : kickB r g = true)
    (hd : d' ≤ d) (hl : l' ≤ l) (hkk : k' ≤ k) (hn : n' ≤ n) (hm : m' ≤ m) :
    soonV (twoS c p d n s l m k c p d' n' s l' m' k') r g 2 = if (lateE c p d' n' s l' m' k' r g).2 = true then ((lateE c p d' n' s l' m' k' r g).1, 0) else (0, 13) := by
  have f := fit_of (c := c) (senE_ok h).2 hk
  have f' := fit_of (c := c) (senE_ok h').2 hk
  have h0 : laV (twoS c p d n s l m k c p d' n' s l' m' k') 0 r g = latestV c p d n s l m k r g := rfl
  have h1 : laV (twoS c p d n s l m k c p d' n' s l' m' k') 1 r g = latestV c p d' n' s l' m' k' r g := rfl
  rw [soon_two, h1, lateE_val h' hk]
  · cases hb : (latestV c p d' n' s l' m' k' r g).2 <;> simp
  · rw [h0]; exact latest_nonneg f.hp.1 f.hd.1 f.hl.1 f.hk.1
  · rw [h1]; exact latest_nonneg f'.hp.1 f'.hd.1 f'.hl.1 f'.hk.1
  · rw [h0, h1]
    exact latest_mono (by have := f.hp; omega) (by have := f.hs; omega) hd (by have := f'.hl; omega) hl (by have := f'.hk; omega) hkk hn hm (Int.le_refl _) (Int.le_refl _)
end Go.Proofs.Ytngcfohmlppghaa
