/-
  A region that draws its order: in whatever order, it ends as the run says. No program.
-/
import Derived.Test.YtohpjhplofimjaaZr
set_option linter.unusedSimpArgs false
set_option linter.unusedVariables false
set_option linter.unusedSectionVars false
namespace Go.Rx
open Go
variable {P : Program}

theorem Rel.sub {R : Ren} {H H' : Hp} {w : World} (h : Rel R H w) (hs : ∀ id o, H'.get id = some o → H.get id = some o) : Rel R H' w :=
  ⟨fun id o ho => h.at_ id o (hs id o ho), fun id id' o o' b c c' h1 h2 => h.inj id id' o o' b c c' (hs id o h1) (hs id' o' h2)⟩
theorem Ext.stretch {R R' : Ren} {nx nx' m : Nat} {wr : List Nat} {w w' : World} (h : Ext R R' nx nx' wr w w') (hm : nx' ≤ m) (hf : Free R nx m) : Ext R R' nx m wr w w' := by
  refine ⟨h.le, fun id hid => h.out id (by omega), h.size, h.keep, fun id b c h1 h2 h3 => ?_, h.quiet⟩
  by_cases hlt : id < nx'
  · exact h.new id b c h1 hlt h3
  · rw [h.out id (.inr (by omega)), hf id h1 h2] at h3; cases h3
theorem fr_put {R : Ren} {N : Nat} {T T' : Tr LV} {dst : Option Tmp} {lv lv' : LV} {v : Value} {a : Act} {f g : Nat → Option LV} (hp : putT T N dst lv' = some T') (hs : a.tmps.size = N) (hf : ∀ t x, f t = some x → VR R x (a.tmps.getD t undef)) (hv : VR R lv v)
    (hg : ∀ t, g t = if dst = some t then some lv else f t) : (a.put dst v).tmps.size = N ∧ ∀ t x, g t = some x → VR R x ((a.put dst v).tmps.getD t undef) := by
  cases dst with
  | none => exact ⟨hs, fun t x hx => by rw [hg] at hx; simp at hx; exact hf t x hx⟩
  | some d =>
    have hd : d < N := by
      unfold putT at hp
      cases hb : Nat.blt d N
      · simp [hb] at hp
      · simpa using hb
    have hd' : d < a.tmps.size := by rw [hs]; exact hd
    refine ⟨by simp [Act.put, hs], fun t x hx => ?_⟩
    rw [hg] at hx
    by_cases e : d = t
    · subst e
      simp at hx; subst hx
      simpa [Act.put, hd'] using hv
    · rw [if_neg (by intro h; cases h; exact e rfl)] at hx
      have := hf t x hx
      simpa [Act.put, Array.getD_eq_getD_getElem?, Array.getElem?_setIfInBounds_ne e] using this
section
variable {call : CallT} {ops : Array Oper} {ms : Tr Nat} {H₀ : Hp} {N : Nat} {τ : Nat → Tr LV} {lo : Nat → Nat} {on : Nat → Bool} {Hk : Nat → Hp} {r : Nat → Out}
/-- What holds when just the operations that S names have come up. -/
structure Mid (ops : Array Oper) (H₀ : Hp) (N : Nat) (τ : Nat → Tr LV) (lo : Nat → Nat) (on : Nat → Bool) (r : Nat → Out) (R₀ : Ren) (WR df : List Nat) (w₀ : World) (S : Nat → Bool) (R : Ren) (a : Act) (w : World) : Prop where
  ext : Ext R₀ R (lo 0) (lo ops.size) WR w₀ w
  free : ∀ k, k < ops.size → S k = false → ∀ id, lo k ≤ id → id < lo (k + 1) → R id = none
  rel : Rel R (cont H₀ on r lo S ops.size) w
  size : a.tmps.size = N
  fr : ∀ t x, tm ops on r (τ 0) S ops.size t = some x → VR R x (a.tmps.getD t undef)
  df : DR R df a.defers
variable {R₀ : Ren} {WR df : List Nat} {w₀ : World} {S : Nat → Bool} {k : Nat}
theorem mid_step (hcall : CallOK P call) (hF : Found P call ops ms H₀ N τ lo on Hk r) (hord : Order ops ms) (hfree : ∀ id, lo 0 ≤ id → id < lo ops.size → H₀.get id = none) (hWR : ∀ k, k < ops.size → on k = true → ∀ id ∈ (r k).wr, id ∈ WR)
    (hcl : Closed ops ms S) (hk : k < ops.size) (hS : S k = false) (hdep : ∀ i, dep ms k i = true → S i = true) {S' : Nat → Bool} (hS' : ∀ i, S' i = if i = k then true else S i)
    {R : Ren} {a : Act} {w : World} (hm : Mid ops H₀ N τ lo on r R₀ WR df w₀ S R a w) {ro : Option Nat} {n : Nat} {Q : Exit → Act → World → Prop} :
    wpOpIn (Fw ro) n P ops Q k (fun a' w' => ∃ R', Mid ops H₀ N τ lo on r R₀ WR df w₀ S' R' a' w') a w := by
  classical
  obtain ⟨o, ho⟩ := ex_op hk
  have hFR : FR R N (only (τ k) (o.looksAt ops)) a.tmps := ⟨hm.size, fun t lv ht => by
    rw [get_only] at ht
    by_cases hl : t ∈ o.looksAt ops
    · rw [if_pos hl] at ht
      exact hm.fr t lv (by rw [looks_same hF hord hcl hk hS hdep ho hl]; exact ht)
    · rw [if_neg hl] at ht; cases ht⟩
  have hwant : Region.wanted o (yielded ops a.tmps) = on k := want_ok (by
    rw [want_congr (T' := τ k) (fun t ht => by rw [get_only, if_pos ht])]; exact hF.want_ k o ho) hFR
  have hput := put_same hF hord hcl hk hS hdep ho hS'
  have hheap := heap_put hF hord hcl hk hS hdep hfree hS'
  have hfree' : ∀ j, j < ops.size → S' j = false → j ≠ k ∧ S j = false := fun j _ hj => by
    rw [hS' j] at hj
    by_cases e : j = k
    · rw [if_pos e] at hj; cases hj
    · rw [if_neg e] at hj; exact ⟨e, hj⟩
  unfold wpOpIn
  simp only [ho, hwant]
  cases hon : on k with
  | false =>
    rw [if_neg (by simp)]
    refine ⟨fun _ _ => trivial, R, ?_⟩
    have hp := hF.put_ k o ho
    have hv : valOf on r k = .tup [] := by simp [valOf, hon]
    obtain ⟨h1, h2⟩ := fr_put hp hm.size hm.fr (lv := valOf on r k) (v := undef) (by rw [hv]; exact ⟨#[], rfl, rfl⟩) hput
    exact ⟨hm.ext, fun j hj hSj id => hm.free j hj (hfree' j hj hSj).2 id, hm.rel.sub fun id x hx => by
      rw [hheap, if_neg (by intro h; rw [h.1] at hon; cases hon)] at hx; exact hx, h1, h2, by rw [put_defers]; exact hm.df⟩
  | true =>
    rw [if_pos rfl]
    have hrun := hF.run k o ho hon
    have hrun' : evOp P call (only (τ k) (o.looksAt ops)) (Hk k) (lo k) o.op = some ⟨r k, lo (k + 1)⟩ := by
      rw [evOp_congr (T' := τ k) (fun x hx => evO_only hx)]; exact hrun
    have hsame := fun id x h => heap_same hF hord hcl hk hS hdep hfree hon (id := id) (o := x) h
    have hlo1 := lo_mono hF (Nat.zero_le k) (by omega)
    have hlo2 := lo_mono hF (show k + 1 ≤ ops.size by omega) (Nat.le_refl _)
    have hlok := hF.mono k hk
    refine evOp_ok hcall hFR (hm.rel.sub hsame) (fun id h1 h2 => hm.free k hk hS id h1 h2) hrun' ?_
    rintro v w' ⟨R', hx, hrel, hvr⟩
    replace hx := hx.stretch (hF.top k hk hon).2 (fun id h1 h2 => hm.free k hk hS id h1 h2)
    refine ⟨R', ?_⟩
    have hp := hF.put_ k o ho
    have hvv : valOf on r k = (r k).v := by simp [valOf, hon]
    obtain ⟨h1, h2⟩ := fr_put hp hm.size (fun t x hx' => (hm.fr t x hx').mono hx.le) (lv := valOf on r k) (v := v) (by rw [hvv]; exact hvr) hput
    have foreign : ∀ id ∈ (r k).wr, id < lo k → ∃ x, (cont H₀ on r lo S ops.size).get id = some x := fun id hi hlt => by
      rcases hF.inn k hk hon id hi with h | ⟨x, h⟩
      · omega
      · exact ⟨x, hsame id x h⟩
    have old : ∀ id x, ¬ key on r lo k id → (cont H₀ on r lo S ops.size).get id = some x → ∃ b c, R id = some (b, c) ∧ Holds R w b c x ∧ (∀ i ∈ (r k).wr, i < lo k → ∀ c', R i ≠ some (b, c')) := fun id x hnk hx' => by
      obtain ⟨b, c, hr, hh⟩ := hm.rel.at_ id x hx'
      refine ⟨b, c, hr, hh, fun i hi hlt c' hri => hnk ?_⟩
      obtain ⟨y, hy⟩ := foreign i hi hlt
      have := hm.rel.inj i id y x b c' c hy hx' hri hr
      subst this
      exact ⟨hon, .inl ⟨hi, hlt⟩⟩
    refine ⟨⟨hm.ext.le.trans hx.le, fun id hid => ?_, Nat.le_trans hm.ext.size hx.size, fun b hb hn => ?_, fun id b c hid1 hid2 hr => ?_, hm.ext.quiet.trans hx.quiet⟩, fun j hj hSj id hid1 hid2 => ?_, ⟨fun id x hx' => ?_, fun id id' x x' b c c' hx1 hx2 hr1 hr2 => ?_⟩, h1, h2, by rw [put_defers]; exact hm.df.mono hx.le⟩
    · rw [hx.out id (by omega), hm.ext.out id hid]
    · rw [hx.keep b (by have := hm.ext.size; omega) fun id hi hlt c hr => ?_, hm.ext.keep b hb hn]
      by_cases hn1 : id < lo 0
      · rw [hm.ext.out id (.inl hn1)] at hr; exact hn id (hWR k hk hon id hi) hn1 c hr
      · rcases hm.ext.new id b c (by omega) (by omega) hr with hb' | ⟨i, hi', hlt', c', hr'⟩
        · omega
        · exact hn i hi' hlt' c' hr'
    · by_cases hown : lo k ≤ id ∧ id < lo (k + 1)
      · rcases hx.new id b c hown.1 hown.2 hr with hb | ⟨i, hi, hlt, c', hr'⟩
        · exact .inl (Nat.le_trans hm.ext.size hb)
        · by_cases hn1 : i < lo 0
          · rw [hm.ext.out i (.inl hn1)] at hr'
            exact .inr ⟨i, hWR k hk hon i hi, hn1, c', hr'⟩
          · exact hm.ext.new i b c' (by omega) (by omega) hr'
      · rw [hx.out id (by omega)] at hr
        exact hm.ext.new id b c hid1 hid2 hr
    · obtain ⟨hne, hSj'⟩ := hfree' j hj hSj
      have hout : id < lo k ∨ lo (k + 1) ≤ id := by
        rcases Nat.lt_or_ge id (lo k) with h | h
        · exact .inl h
        · rcases Nat.lt_or_ge id (lo (k + 1)) with h' | h'
          · exact absurd (own_unique hF hj hk ⟨hid1, hid2⟩ ⟨h, h'⟩) hne
          · exact .inr h'
      rw [hx.out id hout]
      exact hm.free j hj hSj' id hid1 hid2
    · rw [hheap] at hx'
      by_cases hkey : key on r lo k id
      · rw [if_pos hkey] at hx'
        exact hrel.at_ id x hx'
      · rw [if_neg hkey] at hx'
        obtain ⟨b, c, hr, hh, hnot⟩ := old id x hkey hx'
        exact ⟨b, c, hx.le _ _ hr, (hh.kept (hx.keep b hh.lt hnot)).mono hx.le⟩
    · rw [hheap] at hx1 hx2
      have mixed : ∀ i j xi xj ci cj, key on r lo k i → ¬ key on r lo k j → (r k).H.get i = some xi → (cont H₀ on r lo S ops.size).get j = some xj → R' i = some (b, ci) → R' j = some (b, cj) → i = j := fun i j xi xj ci cj hki hkj hxi hxj hri hrj => by
        obtain ⟨bj, cj', hr, hh, hnot⟩ := old j xj hkj hxj
        rw [hx.le _ _ hr] at hrj; cases hrj
        exfalso
        obtain ⟨_, ⟨hw, hlt⟩ | hown⟩ := hki
        · rw [hx.out i (.inl hlt)] at hri; exact hnot i hw hlt ci hri
        · rcases hx.new i _ ci hown.1 (by have := (hF.top k hk hon).2; omega) hri with h | ⟨i', hi', hlt', c'', hr'⟩
          · have := hh.lt; omega
          · exact hnot i' hi' hlt' c'' hr'
      by_cases hk1 : key on r lo k id
      · rw [if_pos hk1] at hx1
        by_cases hk2 : key on r lo k id'
        · rw [if_pos hk2] at hx2
          exact hrel.inj id id' x x' b c c' hx1 hx2 hr1 hr2
        · rw [if_neg hk2] at hx2
          exact mixed id id' x x' c c' hk1 hk2 hx1 hx2 hr1 hr2
      · rw [if_neg hk1] at hx1
        by_cases hk2 : key on r lo k id'
        · rw [if_pos hk2] at hx2
          exact (mixed id' id x' x c' c hk2 hk1 hx2 hx1 hr2 hr1).symm
        · rw [if_neg hk2] at hx2
          obtain ⟨b1, c1, q1, _, _⟩ := old id x hk1 hx1
          obtain ⟨b2, c2, q2, _, _⟩ := old id' x' hk2 hx2
          rw [hx.le _ _ q1] at hr1; cases hr1
          rw [hx.le _ _ q2] at hr2; cases hr2
          exact hm.rel.inj id id' x x' _ _ _ hx1 hx2 q1 q2
theorem cont_congr {S S' : Nat → Bool} : ∀ {k : Nat}, (∀ i, i < k → S i = S' i) → cont H₀ on r lo S k = cont H₀ on r lo S' k
  | 0, _ => rfl
  | k + 1, h => by rw [cont, cont, h k (by omega), cont_congr fun i hi => h i (by omega)]
theorem tm_congr {S S' : Nat → Bool} {T₀ : Tr LV} {t : Nat} : ∀ {k : Nat}, (∀ i, i < k → S i = S' i) → tm ops on r T₀ S k t = tm ops on r T₀ S' k t
  | 0, _ => rfl
  | k + 1, h => by rw [tm, tm, h k (by omega), tm_congr fun i hi => h i (by omega)]
theorem any_ok (hcall : CallOK P call) (hF : Found P call ops ms H₀ N τ lo on Hk r) (hord : Order ops ms) (hfree : ∀ id, lo 0 ≤ id → id < lo ops.size → H₀.get id = none) (hWR : ∀ k, k < ops.size → on k = true → ∀ id ∈ (r k).wr, id ∈ WR)
    {ro : Option Nat} {n : Nat} {Q : Exit → Act → World → Prop} (hQ : ∀ R a w, Mid ops H₀ N τ lo on r R₀ WR df w₀ (fun _ => true) R a w → Q .normal a w) :
    ∀ (fuel : Nat) (listed : Array Bool) (L : List Nat) (R : Ren) (a : Act) (w : World), listed.size = ops.size → (∀ i, i < ops.size → listed.getD i false = false → i ∈ L) → L.length ≤ fuel → Closed ops ms (fun i => listed.getD i false) →
      Mid ops H₀ N τ lo on r R₀ WR df w₀ (fun i => listed.getD i false) R a w → wpAnyIn (Fw ro) n P .any ops Q fuel listed a w := by
  have fin : ∀ (listed : Array Bool) (R : Ren) (a : Act) (w : World), (∀ i, i < ops.size → listed.getD i false = true) → Mid ops H₀ N τ lo on r R₀ WR df w₀ (fun i => listed.getD i false) R a w → Q .normal a w := fun listed R a w hall hm => by
    refine hQ R a w ⟨hm.ext, (fun k hk h => by cases h), ?_, hm.size, fun t x hx => hm.fr t x ?_, hm.df⟩
    · rw [cont_congr (S' := fun i => listed.getD i false) (fun i hi => (hall i hi).symm)]; exact hm.rel
    · rw [tm_congr (S' := fun _ => true) (fun i hi => hall i hi)]; exact hx
  have rdy : ∀ (listed : Array Bool), listed.size = ops.size → Region.ready .any ops listed = [] → ∀ i, i < ops.size → listed.getD i false = true := fun listed hsz hr i => by
    induction i using Nat.strongRecOn with
    | _ i ih =>
      intro hi
      cases hl : listed.getD i false with
      | true => rfl
      | false =>
        exfalso
        obtain ⟨o, ho⟩ := ex_op hi
        have : i ∈ Region.ready .any ops listed := mem_ready.2 ⟨by
          rw [Array.getD_eq_getD_getElem?] at hl ⊢
          rw [Array.getElem?_eq_getElem (by omega)] at hl ⊢; exact hl, o, ho, fun e he hb => by
          have hlt := hord.lt hi (hord.edge ho e he hb)
          exact ih e.on hlt (by omega)⟩
        rw [hr] at this; cases this
  intro fuel
  induction fuel with
  | zero =>
    intro listed L R a w hsz hL hlen hcl hm
    have hall : ∀ i, i < ops.size → listed.getD i false = true := fun i hi => by
      cases hl : listed.getD i false with
      | true => rfl
      | false =>
        have := hL i hi hl
        rw [List.length_eq_zero_iff.1 (Nat.le_zero.1 hlen)] at this; cases this
    refine ⟨?_, fin listed R a w hall hm⟩
    cases hr : Region.ready .any ops listed with
    | nil => rfl
    | cons x l =>
      have hx : x ∈ Region.ready .any ops listed := by rw [hr]; simp
      obtain ⟨h1, o, ho, _⟩ := mem_ready.1 hx
      have hx' : x < ops.size := (Array.getElem?_eq_some_iff.1 ho).1
      have := hall x hx'
      rw [Array.getD_eq_getD_getElem?, Array.getElem?_eq_getElem (by omega)] at this h1
      simp at this h1; rw [this] at h1; cases h1
  | succ fuel ih =>
    intro listed L R a w hsz hL hlen hcl hm
    refine ⟨fun hr => fin listed R a w (rdy listed hsz hr) hm, fun i hi => ?_⟩
    obtain ⟨h1, o, ho, hall⟩ := mem_ready.1 hi
    have hlt : i < ops.size := (Array.getElem?_eq_some_iff.1 ho).1
    have hSi : listed.getD i false = false := by
      rw [Array.getD_eq_getD_getElem?, Array.getElem?_eq_getElem (by omega)] at h1 ⊢; exact h1
    have hdep : ∀ j, dep ms i j = true → listed.getD j false = true := fun j hd => by
      obtain ⟨e, he, hb, h | h⟩ := hord.edges ho hd
      · rw [← h]; exact hall e he hb
      · exact hcl e.on j (Nat.lt_trans (hord.lt hlt (hord.edge ho e he hb)) hlt) (hall e he hb) h
    have hS' : ∀ j, (listed.setIfInBounds i true).getD j false = if j = i then true else listed.getD j false := fun j => by
      by_cases e : j = i
      · subst e; rw [if_pos rfl]; simp [hsz, hlt]
      · rw [if_neg e]; exact getD_set_ne false (Ne.symm e)
    refine wpOpIn_mono ?_ (mid_step (S := fun i => listed.getD i false) hcall hF hord hfree hWR hcl hlt hSi hdep (S' := fun j => (listed.setIfInBounds i true).getD j false) hS' hm)
    rintro a' w' ⟨R', hm'⟩
    refine ih (listed.setIfInBounds i true) (L.erase i) R' a' w' (by simp [hsz]) (fun j hj hl => ?_) ?_ (fun j l hj hjl hd => ?_) hm'
    · rw [hS'] at hl
      by_cases e : j = i
      · rw [if_pos e] at hl; cases hl
      · rw [if_neg e] at hl; exact (List.mem_erase_of_ne e).2 (hL j hj hl)
    · rw [List.length_erase_of_mem (hL i hlt hSi)]; omega
    · simp only [hS'] at hjl ⊢
      by_cases e : l = i
      · rw [if_pos e]
      · rw [if_neg e]
        by_cases e' : j = i
        · subst e'; exact hdep l hd
        · rw [if_neg e'] at hjl; exact hcl j l hj hjl hd
end
theorem rep_false (n i : Nat) : (Array.replicate n false).getD i false = false := by
  by_cases h : i < n <;> simp [Array.getD, h]
theorem evDraw_eq {call : CallT} {ops : Array Oper} {s s' : S} (h : evDraw P call ops s = some s') : ∃ ms s'' g, regOK ops ms = true ∧ evDrawn P call ops ms s.H ops.toList 0 s ⟨[], [], []⟩ = some (s'', g) ∧ s' = ⟨s''.T, s''.N, heapOf (fun _ => true) s.H g.ds, s''.nx, s''.wr, s''.df, more' s''.mx s''.nx⟩ := by
  obtain ⟨T, N, H, nx, wr, df, mx⟩ := s
  simp only [evDraw, Tr.force_eq] at h
  cases hb : regOK ops (masksFrom ops.toList 0 .l)
  · simp [hb] at h
  · simp only [hb, cond_true] at h
    cases hd : evDrawn P call ops (masksFrom ops.toList 0 .l) H ops.toList 0 ⟨T, N, H, nx, wr, df, mx⟩ ⟨[], [], []⟩ with
    | none => simp [hd] at h
    | some q =>
      obtain ⟨⟨T', N', H', nx', wr', df', mx'⟩, ⟨ds, hs, fs⟩⟩ := q
      simp only [hd, nN_eq, Option.some.injEq] at h
      exact ⟨_, _, _, hb, hd, h.symm⟩
theorem evDraw_up {call : CallT} {ops : Array Oper} {s s' : S} (h : evDraw P call ops s = some s') : Up s s' := by
  obtain ⟨ms, s'', g, hr, hd, rfl⟩ := evDraw_eq h
  obtain ⟨τ, lo, on, Hk, r, hF, _, h2, _, h4, h5, h6, h7, _, _⟩ := found_of (order_of hr) hd
  have := lo_mono hF (Nat.zero_le ops.size) (Nat.le_refl _)
  exact ⟨by rw [← h6.2]; exact (more'_le _ _).1, by rw [← h2]; exact h4 ▸ this, h5, h7⟩
theorem evDraw_ok {call : CallT} (hcall : CallOK P call) (hmix : P.follows .mixedOrders = true) {ops : Array Oper} {id : Nat} {ro : Option Nat} {n : Nat} {Q : Exit → Act → World → Prop} {s s' : S} {R : Ren} {a : Act} {w : World} (h : evDraw P call ops s = some s')
    (hs : St R s a w) (hf : Free R s.nx s'.mx) (hQ : ∀ R' a' w', Ext R R' s.nx s'.nx s'.wr w w' → St R' s' a' w' → Q .normal a' w') : (Code.region id ops true).wpIn (Fw ro) n P Q a w := by
  obtain ⟨ms, s'', g, hr, hd, rfl⟩ := evDraw_eq h
  have hord := order_of hr
  obtain ⟨τ, lo, on, Hk, r, hF, h1, h2, h3, h4, h5, h6, h7, h8, h9⟩ := found_of hord hd
  replace hf : Free R s.nx s''.nx := hf.less (more'_le _ _).2
  refine wpIn_region_any hmix ?_
  have hfree : ∀ id, lo 0 ≤ id → id < lo ops.size → s.H.get id = none := fun id i1 i2 => by
    cases hg : s.H.get id with
    | none => rfl
    | some o =>
      obtain ⟨b, c, hr, _⟩ := hs.M.at_ id o hg
      rw [hf id (by rw [← h2]; exact i1) (by rw [← h4]; exact i2)] at hr; cases hr
  have c0 : cont s.H on r lo (fun i => (Array.replicate ops.size false).getD i false) ops.size = s.H := by
    have : ∀ k, cont s.H on r lo (fun _ => false) k = s.H := fun k => by
      induction k with
      | zero => rfl
      | succ k ih => rw [cont, ih]; simp
    rw [cont_congr (S' := fun _ => false) (fun i hi => rep_false _ i), this]
  have t0 : ∀ t, tm ops on r (τ 0) (fun i => (Array.replicate ops.size false).getD i false) ops.size t = s.T.get t := fun t => by
    have : ∀ k, tm ops on r (τ 0) (fun _ => false) k t = (τ 0).get t := fun k => by
      induction k with
      | zero => rfl
      | succ k ih => rw [tm, ih]; simp
    rw [tm_congr (S' := fun _ => false) (fun i hi => rep_false _ i), this, h1]
  refine any_ok (R₀ := R) (WR := s''.wr) (df := s.df) (w₀ := { w with drawn := w.drawn + 1 }) hcall hF hord hfree h8 ?_ ops.size _ (List.range ops.size) R a _ (by simp) (fun i hi _ => by simpa using hi) (by simp) (fun k i hk hS => ?_) ⟨⟨Le.refl R, fun _ _ => rfl, Nat.le_refl _, fun _ _ _ => rfl, fun id b c i1 i2 hr => ?_, ⟨rfl, rfl, rfl⟩⟩, fun k hk _ id i1 i2 => ?_, ?_, hs.F.size, fun t x hx => hs.F.at_ t x (by rw [← t0 t]; exact hx), hs.D⟩
  · intro R' a' w' hm
    refine hQ R' a' w' ?_ ⟨⟨?_, fun t lv ht => hm.fr t lv ?_⟩, ?_, ?_⟩
    · have e := hm.ext
      rw [h2, h4] at e
      exact ⟨e.le, e.out, e.size, e.keep, e.new, ⟨e.quiet.os, e.quiet.tape, e.quiet.output⟩⟩
    · show a'.tmps.size = s''.N
      rw [h5]; exact hm.size
    · rw [← tm_all hF ops.size (Nat.le_refl _), h3]; exact ht
    · show Rel R' (heapOf (fun _ => true) s.H g.ds) w'
      rw [h9]; exact hm.rel
    · show DR R' s''.df a'.defers
      rw [h6.1]; exact hm.df
  · exact absurd ((rep_false ops.size k).symm.trans hS) (by simp)
  · rw [h2] at i1; rw [h4] at i2
    rw [hf id i1 i2] at hr; cases hr
  · have m1 := lo_mono hF (Nat.zero_le k) (by omega)
    have m2 := lo_mono hF (show k + 1 ≤ ops.size by omega) (Nat.le_refl _)
    exact hf id (by rw [← h2]; omega) (by show id < s''.nx; rw [← h4]; omega)
  · rw [c0]
    exact ⟨fun id o ho => by obtain ⟨b, c, hr, hh⟩ := hs.M.at_ id o ho; exact ⟨b, c, hr, hh.kept rfl⟩, hs.M.inj⟩
end Go.Rx
