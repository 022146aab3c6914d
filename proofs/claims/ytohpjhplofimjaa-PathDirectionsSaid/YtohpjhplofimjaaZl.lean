/-
  What the run of closed code says of the machine: append and the other builtins. No program.
-/
import Derived.Test.YtohpjhplofimjaaZk
import Derived.Deep.AppendLies
import Derived.WalkLawsBesides
set_option linter.unusedSimpArgs false
set_option linter.unusedVariables false
set_option linter.unusedSectionVars false
namespace Go.Rx
open Go
variable {P : Program} {R : Ren} {N : Nat} {T : Tr LV} {a : Act} {H : Hp} {w : World} {nx : Nat}

/-- A row that has grown, in its place or in a new block. -/
theorem did_grown {w' : World} {H₁ : Hp} {g c n z : Nat} {e : TypeId} {cs : List LV} {xs : List Value} {ob : Option Nat} {wr : List Nat} (hR : Rel R H w) (hf : R nx = none)
    (hown : w'.ownsRow 0 e z (.slice (some ⟨g, 0, none⟩) n c) n xs) (hcs : VRL R cs xs) (hg : w.grownBy w' ob) (hob : ob = some g ∨ g = w.heap.size)
    (h1 : ∀ id o, H₁.get id = some o → H.get id = some o ∧ ∀ b c', R id = some (b, c') → some b ≠ ob) (hwr : ∀ b, ob = some b → ∃ i ∈ wr, i < nx ∧ ∃ c', R i = some (b, c')) :
    Did R nx ⟨.gs nx 0 0 n, H₁.set nx (some (.gro e z cs)), nx + 1, wr⟩ w w' (.slice (some ⟨g, 0, none⟩) n c) := by
  have hle := le_upd (x := (g, c)) hf
  obtain ⟨cur, hgg, hnc, _⟩ := own_block hown
  have hgl := lt_of_some hgg
  refine ⟨upd R nx (g, c), ⟨hle, fun id hid => upd_ne R _ (by dsimp only at hid; omega), hg.size, fun b hb hn => hg.block b hb fun eb => ?_, fun id b c' i1 i2 hr => ?_, ⟨hg.os, hg.tape, hg.output⟩⟩, ⟨fun id o ho => ?_, fun id id' o₁ o₂ b c₁ c₂ g1 g2 r1 r2 => ?_⟩, ⟨g, c, upd_same R nx _, by omega, by simp⟩⟩
  · obtain ⟨i, hi, hlt, c', hr⟩ := hwr b eb.symm
    exact hn i hi hlt c' hr
  · have : id = nx := by dsimp only at i2; omega
    subst this
    rw [upd_same] at hr; cases hr
    rcases hob with h | h
    · obtain ⟨i, hi, hlt, c', hr⟩ := hwr _ h
      exact .inr ⟨i, hi, hlt, c', hr⟩
    · exact .inl (by omega)
  · by_cases e' : id = nx
    · subst e'
      rw [Tr.get_set_same] at ho; cases ho
      exact ⟨g, c, upd_same R _ _, n, xs, hown, hcs.mono hle⟩
    · rw [Tr.get_set_ne _ _ e'] at ho
      obtain ⟨ho', hne⟩ := h1 id o ho
      obtain ⟨b, c', hr, hh⟩ := hR.at_ id o ho'
      exact ⟨b, c', hle _ _ hr, (hh.kept (hg.block b hh.lt (hne b c' hr))).mono hle⟩
  · have old : ∀ i o, i ≠ nx → (H₁.set nx (some (.gro e z cs))).get i = some o → ∃ b c', R i = some (b, c') ∧ b ≠ g ∧ ∃ o', H.get i = some o' := fun i o hne ho => by
      rw [Tr.get_set_ne _ _ hne] at ho
      obtain ⟨ho', hn⟩ := h1 i o ho
      obtain ⟨b, c', hr, hh⟩ := hR.at_ i o ho'
      refine ⟨b, c', hr, fun eb => ?_, o, ho'⟩
      rcases hob with h | h
      · exact hn b c' hr (by rw [h, eb])
      · have := hh.lt; omega
    by_cases e1 : id = nx
    · by_cases e2 : id' = nx
      · rw [e1, e2]
      · obtain ⟨b', c', hr, hne, _⟩ := old id' o₂ e2 g2
        subst e1; rw [upd_same] at r1; cases r1
        rw [upd_ne R _ e2, hr] at r2; cases r2
        exact absurd rfl hne
    · by_cases e2 : id' = nx
      · obtain ⟨b', c', hr, hne, _⟩ := old id o₁ e1 g1
        subst e2; rw [upd_same] at r2; cases r2
        rw [upd_ne R _ e1, hr] at r1; cases r1
        exact absurd rfl hne
      · obtain ⟨_, _, _, _, x1, q1⟩ := old id o₁ e1 g1
        obtain ⟨_, _, _, _, x2, q2⟩ := old id' o₂ e2 g2
        rw [upd_ne R _ e1] at r1; rw [upd_ne R _ e2] at r2
        exact hR.inj id id' x1 x2 b c₁ c₂ q1 q2 r1 r2
theorem ro_cells {R : Ren} {w : World} {b : Nat} : ∀ (l : List LV) (k : Nat), (∀ (i : Nat) (lv : LV), l[i]? = some lv → ∃ v, w.cell? ⟨b, k + i, none⟩ = some v ∧ VR R lv v) → ∃ us : List Value, VRL R l us ∧ ∀ (j : Nat) (u : Value), us[j]? = some u → w.cell? ⟨b, k + j, none⟩ = some u
  | [], k, _ => ⟨[], rfl, fun j u hu => by simp at hu⟩
  | x :: l, k, hx => by
    obtain ⟨v, h1, h2⟩ := hx 0 x rfl
    obtain ⟨us, h3, h4⟩ := ro_cells l (k + 1) fun i lv hi => by
      have := hx (i + 1) lv (by simpa using hi)
      rwa [show k + (i + 1) = k + 1 + i by omega] at this
    refine ⟨v :: us, VRL.cons h2 h3, fun j u hu => ?_⟩
    cases j with
    | zero => simp at hu; subst hu; exact h1
    | succ j =>
      have := h4 j u (by simpa using hu)
      rwa [show k + (j + 1) = k + 1 + j by omega]
theorem rd_ok {id off n b c : Nat} {vs : List LV} (hR : Rel R H w) (h : rd H id off n = some vs) (hr : R id = some (b, c)) :
    vs.length = n ∧ ∃ us, VRL R vs us ∧ ∀ (j : Nat) (u : Value), us[j]? = some u → w.cell? ((⟨b, off, none⟩ : Addr).add j) = some u := by
  unfold rd at h
  cases hg : H.get id with
  | none => simp [hg] at h
  | some o =>
    simp only [hg] at h
    cases hc : o.cs with
    | none =>
      simp only [hc] at h
      cases o <;> simp only at h <;> try cases h
      rename_i base cs
      cases hle : Nat.ble base off
      · simp [hle] at h
      · simp only [hle, cond_true] at h
        obtain ⟨rfl, hl⟩ := tk_ok h
        rw [dp_eq] at hl ⊢
        obtain ⟨b', c', hr', hh⟩ := hR.at_ id _ hg
        rw [hr] at hr'; cases hr'
        have hle' : base ≤ off := by simpa using hle
        obtain ⟨us, h1, h2⟩ := ro_cells ((cs.drop (off - base)).take n) off (R := R) (w := w) (b := b) fun i lv hi => by
          rw [List.getElem?_take] at hi
          split at hi
          · rw [List.getElem?_drop] at hi
            have := hh.2 (off - base + i) lv hi
            rwa [show base + (off - base + i) = off + i by omega] at this
          · cases hi
        exact ⟨by simp at hl ⊢; omega, us, h1, fun j u hu => by rw [add_eq]; exact h2 j u hu⟩
    | some cs =>
      simp only [hc] at h
      obtain ⟨rfl, hl⟩ := tk_ok h
      rw [dp_eq] at hl ⊢
      obtain ⟨b', c', hr', hh⟩ := hR.at_ id o hg
      rw [hr] at hr'; cases hr'
      obtain ⟨cur, ty, hb, hv⟩ := hh.view hc
      refine ⟨by simp at hl ⊢; omega, _, (hv.drop off).take n, fun j u hu => ?_⟩
      rw [add_eq, cell_of_row w b (off + j) cur ty (0, 0) hb]
      rw [List.getElem?_take] at hu
      split at hu
      · rw [List.getElem?_drop, List.getElem?_take] at hu
        split at hu
        · simpa using hu
        · cases hu
      · cases hu
/-- What is to be appended. -/
theorem more_ok {z m : Nat} {x : LV} {vx : Value} {news : List LV} (hR : Rel R H w) (h : more H z x = some (m, news)) (hx : VR R x vx) :
    (m = 0 ∧ ∃ y c, vx = .slice y 0 c) ∨ ∃ (ad : Addr) (c : Nat) (us : List Value), vx = .slice (some ad) m c ∧ news.length = m * z ∧ VRL R news us ∧ ∀ (j : Nat) (u : Value), us[j]? = some u → w.cell? (ad.add j) = some u := by
  cases x <;> simp only [more] at h <;> try cases h
  case nils => exact .inl ⟨rfl, none, 0, hx⟩
  case sl id off len cap =>
    obtain ⟨b, c, hr, rfl⟩ := hx
    cases len with
    | zero => simp at h; exact .inl ⟨h.1.symm, _, _, rfl⟩
    | succ k =>
      cases hd : rd H id off ((k + 1) * z) with
      | none => simp [hd] at h
      | some cs =>
        simp [hd] at h
        obtain ⟨rfl, rfl⟩ := h
        obtain ⟨h1, us, h2, h3⟩ := rd_ok hR hd hr
        exact .inr ⟨_, _, us, rfl, h1, h2, h3⟩
  case gs id off el len =>
    obtain ⟨b, c, hr, _, rfl⟩ := hx
    cases len with
    | zero => simp at h; exact .inl ⟨h.1.symm, _, _, rfl⟩
    | succ k =>
      cases hd : rd H id off ((k + 1) * z) with
      | none => simp [hd] at h
      | some cs =>
        simp [hd] at h
        obtain ⟨rfl, rfl⟩ := h
        obtain ⟨h1, us, h2, h3⟩ := rd_ok hR hd hr
        exact .inr ⟨_, _, us, rfl, h1, h2, h3⟩
theorem fits_ok {n bytes : Nat} (h : fits n bytes = true) : n * bytes ≤ 140737488355328 ∧ n ≤ 1000000 := by
  simp only [fits, Bool.and_eq_true] at h
  exact ⟨by simpa using h.1, by simpa using h.2⟩
theorem run_append_zero {t ty e : TypeId} {i : TypeInfo} (hu : P.underlying t = some (.slice e)) (hi : P.info? e = some i) (base y : Option Addr) (len cap c : Nat) (hle : len ≤ cap) (w : World) :
    (Builtin.append_ #[t, t] ty #[.slice base len cap, .slice y 0 c]).run P w = .ok (.slice base len cap) w := by
  have h1 : ∀ z, (Builtin.firstCells z 0 (.slice y 0 c)).run P w = .ok #[] w := fun z => by
    cases y <;> simp [Builtin.firstCells, loadCells, loadCellsFrom]
  cases base <;> simp [Builtin.append_, run_underlying hu, sizeOf, typeInfo, hi, Builtin.lenOf, hle, h1, storeCells]
theorem VRL_of_le {cs news : List LV} {xs us : List Value} (h1 : VRL R cs xs) (h2 : VRL R news us) : VRL R (ap cs news) (xs ++ us) := by rw [ap_eq]; exact h1.append h2
theorem own_take {w : World} {b c n k t z : Nat} {xs : List Value} (h : w.ownsRow 0 t z (.slice (some ⟨b, 0, none⟩) n c) n xs) (hk : k ≤ n) : w.ownsRow 0 t z (.slice (some ⟨b, 0, none⟩) k c) k (xs.take (k * z)) := by
  obtain ⟨cur, h0, h1, h2, h3, h4⟩ := own_block h
  have hm : k * z ≤ n * z := Nat.mul_le_mul_right _ hk
  have hl := h.1
  exact ⟨by simp; omega, .inr ⟨b, c, cur, rfl, Nat.zero_le _, h0, by omega, h2, h3, by rw [← h4, List.take_take]; congr 1; omega⟩⟩
theorem run_append_new {t ty e : TypeId} {i : TypeInfo} {zv : Value} {z : Nat} (hu : P.underlying t = some (.slice e)) (hi : P.info? e = some i) (hz : i.zero = some zv) (hs : i.size = z) (hzs : zv.cells.size = z)
    (b ad : Addr) (m c : Nat) (us : List Value) (hl : us.length = m * z) (hnews : ∀ (j : Nat) (u : Value), us[j]? = some u → w.cell? (ad.add j) = some u) (hm : 0 < m) (hf : fits m i.bytes = true) :
    ∃ cap w', (Builtin.append_ #[t, t] ty #[.slice (some b) 0 0, .slice (some ad) m c]).run P w = .ok (.slice (some ⟨w.heap.size, 0, none⟩) m cap) w' ∧
      w'.ownsRow 0 e z (.slice (some ⟨w.heap.size, 0, none⟩) m cap) m us ∧ w.grownBy w' none := by
  obtain ⟨f1, f2⟩ := fits_ok hf
  have hnc : Builtin.nextslicecap (0 + m) 0 * i.bytes ≤ 281474976710656 := by
    have : Builtin.nextslicecap (0 + m) 0 = m := by unfold Builtin.nextslicecap; rw [if_pos (by omega)]; omega
    rw [this]; omega
  have h := run_append_grow (P := P) w t ty e i zv hu hi hz b 0 0 [] (by simp) (fun j v hv => by simp at hv) ad m c us (by rw [hs]; exact hl) hnews (by omega) (by omega) hnc
  rw [Nat.zero_add] at h
  have hge := grownCap_ge w m 0 e
  refine ⟨_, _, h, ⟨hl, .inr ⟨w.heap.size, _, _, rfl, Nat.zero_le _, by exact heap_alloc_new w.drew _, hge, grownCap_le_maxLen w m 0 e (by unfold maxLen; omega), ?_, ?_⟩⟩, ?_⟩
  · simp [size_zeroCells, hl, hzs]
    rw [← Nat.add_mul]; congr 1; omega
  · simp [← hl]
  · exact ⟨rfl, rfl, rfl, by show w.heap.size ≤ (w.heap.push _).size; rw [Array.size_push]; exact Nat.le_succ _, fun k hk _ => by exact heap_alloc_old w.drew _ k hk⟩
theorem kill_ok {id b c : Nat} {o : LO} (hR : Rel R H w) (hid : H.get id = some o) (hr : R id = some (b, c)) : ∀ id' o', (H.set id none).get id' = some o' → H.get id' = some o' ∧ ∀ b' c', R id' = some (b', c') → some b' ≠ some b := fun id' o' h => by
  by_cases e : id' = id
  · subst e; rw [Tr.get_set_same] at h; cases h
  · rw [Tr.get_set_ne _ _ e] at h
    refine ⟨h, fun b' c' hr' eb => e ?_⟩
    cases eb
    exact hR.inj id' id o' o b c' c h hid hr' hr
theorem grow_eq (H : Hp) (nx id : Nat) (e : TypeId) (z n : Nat) (cs : List LV) : grow H nx id e z n cs = some ⟨.gs nx 0 0 n, (H.set id none).set nx (some (.gro e z cs)), nx + 1, [id]⟩ := by
  simp [grow, Tr.force_eq, nN_eq, fresh_eq]
theorem append_owned {t ty e : TypeId} {i : TypeInfo} {zv : Value} {z : Nat} (hu : P.underlying t = some (.slice e)) (hi : P.info? e = some i) (hz : i.zero = some zv) (hs : i.size = z) (hzs : zv.cells.size = z) (h0 : 0 < z)
    {v : Value} {n : Nat} {xs : List Value} (hown : w.ownsRow 0 e z v n xs) {ad : Addr} {m c : Nat} {us : List Value} (hl : us.length = m * z) (hnews : ∀ (j : Nat) (u : Value), us[j]? = some u → w.cell? (ad.add j) = some u) (h1 : ∀ u ∈ us, u.oneCell' = true)
    (hm : 0 < m) (hf : fits (n + m) i.bytes = true) :
    ∃ g cap w', (Builtin.append_ #[t, t] ty #[v, .slice (some ad) m c]).run P w = .ok (.slice (some ⟨g, 0, none⟩) (n + m) cap) w' ∧ w'.ownsRow 0 e z (.slice (some ⟨g, 0, none⟩) (n + m) cap) (n + m) (xs ++ us) ∧ w.grownBy w' v.ownBlock ∧ (v.ownBlock = some g ∨ g = w.heap.size) := by
  obtain ⟨f1, f2⟩ := fits_ok hf
  obtain ⟨g, cap, w', h2, h3, h4, h5, _⟩ := run_append_lies (P := P) w t ty 0 e i zv z i.bytes hu hi hz hs rfl hzs h0 v n xs hown ad m c us hl hnews h1 hm (by unfold maxLen; omega) f1 (Nat.zero_le _) w.heap.size rfl
  exact ⟨g, cap, w', h2, h3, h4, h5⟩
theorem evAppend_ok (hR : Rel R H w) {t ty : TypeId} {s x : LV} {vs vx : Value} {r : Out} (hf : Free R nx r.nx) (h : evAppend P t s x H nx = some r) (hvs : VR R s vs) (hvx : VR R x vx) :
    ∃ v w', (Builtin.append_ #[t, t] ty #[vs, vx]).run P w = .ok v w' ∧ Did R nx r w w' v := by
  unfold evAppend at h
  cases hu : P.underlying t with
  | none => simp [hu] at h
  | some d =>
    cases d <;> simp only [hu] at h <;> try cases h
    rename_i e
    cases hi : P.info? e with
    | none => simp [hi] at h
    | some i =>
      simp only [hi] at h
      cases hz : i.zero with
      | none => simp [hz] at h
      | some zv =>
        simp only [hz, nN_eq] at h
        cases hb : (Nat.beq zv.cells.size i.size && Nat.blt 0 i.size)
        · simp [hb] at h
        · simp only [hb, cond_true] at h
          simp only [Bool.and_eq_true, beq_iff] at hb
          obtain ⟨hzs, h0⟩ := hb
          have h0 : 0 < i.size := by simpa using h0
          cases hm : more H i.size x with
          | none => simp [hm] at h
          | some q =>
            obtain ⟨m, news⟩ := q
            simp only [hm] at h
            cases m with
            | zero =>
              simp only at h
              have hx0 : ∃ y c, vx = .slice y 0 c := by
                rcases more_ok hR hm hvx with ⟨_, hh⟩ | ⟨ad, c, us, e1, _⟩
                · exact hh
                · exact ⟨_, _, e1⟩
              obtain ⟨y, c, rfl⟩ := hx0
              cases s <;> simp only [appNone] at h <;> try cases h
              case nils.refl =>
                rw [show vs = .slice none 0 0 from hvs]
                exact ⟨_, w, run_append_zero hu hi none y 0 0 c (Nat.le_refl _) w, did_same hR rfl⟩
              case gs.refl id off el len =>
                obtain ⟨b, cc, hr, hle, rfl⟩ := hvs
                exact ⟨_, w, run_append_zero hu hi _ y _ _ c (by omega) w, did_same hR ⟨b, cc, hr, hle, rfl⟩⟩
              case sl id off len cap =>
                cases hlc : Nat.ble len cap
                · simp [hlc] at h
                · simp [hlc] at h; subst h
                  obtain ⟨b, cc, hr, rfl⟩ := hvs
                  exact ⟨_, w, run_append_zero hu hi _ y _ _ c (by simpa using hlc) w, did_same hR ⟨b, cc, hr, rfl⟩⟩
            | succ k =>
              simp only at h
              cases h1 : allOne news
              · simp [h1] at h
              · simp only [h1, cond_true] at h
                rcases more_ok hR hm hvx with ⟨hk, _⟩ | ⟨ad, c, us, rfl, hl, hnu, hcell⟩
                · cases hk
                have hone := hnu.one h1
                have hlu : us.length = (k + 1) * i.size := by rw [hnu.length, hl]
                unfold appSome at h
                split at h
                · -- nil
                  unfold appNew at h
                  cases hft : fits (k + 1) i.bytes
                  · simp [hft] at h
                  · simp only [hft, cond_true, fresh_eq, Option.some.injEq] at h; subst h
                    rw [show vs = .slice none 0 0 from hvs]
                    obtain ⟨g, cap, w', hr, h3, h4, h5⟩ := append_owned (ty := ty) hu hi hz rfl hzs h0 (World.ownsRow_nil w 0 e i.size) hlu hcell hone (by omega) (by simpa using hft)
                    rw [Nat.zero_add] at hr h3
                    refine ⟨_, w', hr, did_grown hR (hf nx (Nat.le_refl _) (Nat.lt_succ_self _)) h3 (by simpa using hnu) h4 (by simpa [Value.ownBlock] using h5) (fun id o ho => ⟨ho, fun b c' _ => by simp [Value.ownBlock]⟩) (fun b hb => by simp [Value.ownBlock] at hb)⟩
                · unfold appNew at h
                  rename_i id off
                  cases hft : fits (k + 1) i.bytes
                  · simp [hft] at h
                  · simp only [hft, cond_true, fresh_eq, Option.some.injEq] at h; subst h
                    obtain ⟨b, cc, hr0, rfl⟩ := hvs
                    obtain ⟨cap, w', hr, h3, h4⟩ := run_append_new (ty := ty) hu hi hz rfl hzs ⟨b, off, none⟩ ad (k + 1) c us hlu hcell (by omega) hft
                    exact ⟨_, w', hr, did_grown hR (hf nx (Nat.le_refl _) (Nat.lt_succ_self _)) h3 hnu h4 (.inr rfl) (fun id o ho => ⟨ho, fun b c' _ => by simp⟩) (fun b hb => by cases hb)⟩
                · -- a row that may grow
                  rename_i id len
                  unfold appGs at h
                  cases hg : H.get id with
                  | none => simp [hg] at h
                  | some o =>
                    cases o <;> simp only [hg] at h <;> try cases h
                    rename_i e' z' cs
                    cases hb : (Nat.beq e' e && Nat.beq z' i.size && Nat.blt id nx && fits (len + (k + 1)) i.bytes)
                    · simp [hb] at h
                    · simp only [hb, cond_true] at h
                      simp only [Bool.and_eq_true, beq_iff] at hb
                      obtain ⟨⟨⟨rfl, rfl⟩, h2⟩, hft⟩ := hb
                      have h2 : id < nx := by simpa using h2
                      cases htk : tk (len * i.size) cs with
                      | none => simp [htk] at h
                      | some olds =>
                        simp only [htk, grow_eq, Option.some.injEq] at h; subst h
                        obtain ⟨rfl, hle⟩ := tk_ok htk
                        obtain ⟨b, cc, hr0, hle0, rfl⟩ := hvs
                        obtain ⟨b', c', hr', n, xs, hown, hcx⟩ := hR.at_ id _ hg
                        rw [hr0] at hr'; cases hr'
                        have hxl : xs.length = n * i.size := hown.1
                        have hln : len ≤ n := by
                          rw [← hcx.length, hxl] at hle
                          exact Nat.le_of_mul_le_mul_right hle h0
                        have hown' := own_take hown hln
                        obtain ⟨g, cap, w', hr, h3, h4, h5⟩ := append_owned (ty := ty) hu hi hz rfl hzs h0 hown' hlu hcell hone (by omega) hft
                        refine ⟨_, w', hr, did_grown hR (hf nx (Nat.le_refl _) (Nat.lt_succ_self _)) h3 (VRL_of_le (hcx.take _) hnu) h4 (by simpa [Value.ownBlock] using h5) (by simpa [Value.ownBlock] using kill_ok hR hg hr0) (fun b' hb' => ⟨id, by simp, h2, cc, by simp [Value.ownBlock] at hb'; rw [← hb']; exact hr0⟩)⟩
                · -- a row whose capacity is known
                  rename_i id len cap' _
                  unfold appSl at h
                  cases hg : H.get id with
                  | none => simp [hg] at h
                  | some o =>
                    cases o <;> simp only [hg] at h <;> try cases h
                    rename_i e' cs
                    cases hb : (Nat.beq e' e && Nat.blt id nx && Nat.beq cs.length (cap' * i.size) && Nat.ble len cap' && Nat.ble cap' 1000000 && fits (len + (k + 1)) i.bytes)
                    · simp [hb] at h
                    · simp only [hb, cond_true] at h
                      simp only [Bool.and_eq_true, beq_iff] at hb
                      obtain ⟨⟨⟨⟨⟨rfl, h2⟩, h6⟩, h7⟩, h8⟩, hft⟩ := hb
                      have h2 : id < nx := by simpa using h2
                      have h7 : len ≤ cap' := by simpa using h7
                      have h8 : cap' ≤ 1000000 := by simpa using h8
                      cases htk : tk (len * i.size) cs with
                      | none => simp [htk] at h
                      | some olds =>
                        simp only [htk, grow_eq, Option.some.injEq] at h; subst h
                        obtain ⟨rfl, hle⟩ := tk_ok htk
                        obtain ⟨b, cc, hr0, rfl⟩ := hvs
                        obtain ⟨b', c', hr', cur, hbk, hcx⟩ := hR.at_ id _ hg
                        rw [hr0] at hr'; cases hr'
                        have hcl : cur.size = cap' * i.size := by rw [← h6, ← hcx.length]; simp
                        have hm2 : len * i.size ≤ cap' * i.size := Nat.mul_le_mul_right _ h7
                        have hown' : w.ownsRow 0 e' i.size (.slice (some ⟨b, 0, none⟩) len cap') len (cur.toList.take (len * i.size)) :=
                          ⟨by simp; omega, .inr ⟨b, cap', cur, rfl, Nat.zero_le _, hbk, h7, by unfold maxLen; omega, hcl, rfl⟩⟩
                        obtain ⟨g, cap, w', hr, h3, h4, h5⟩ := append_owned (ty := ty) hu hi hz rfl hzs h0 hown' hlu hcell hone (by omega) hft
                        refine ⟨_, w', hr, did_grown hR (hf nx (Nat.le_refl _) (Nat.lt_succ_self _)) h3 (VRL_of_le (hcx.take _) hnu) h4 (by simpa [Value.ownBlock] using h5) (by simpa [Value.ownBlock] using kill_ok hR hg hr0) (fun b' hb' => ⟨id, by simp, h2, cc, by simp [Value.ownBlock] at hb'; rw [← hb']; exact hr0⟩)⟩
                · cases h

/-! ### The other builtins -/
theorem foldI_ok {f : Int → Int → Int} {g : Value → Value → Sem Value} {k : IntKind} (hg : ∀ (x y : Int) (w : World), (g (.int k x) (.int k y)).run P w = .ok (.int k (f x y)) w) :
    ∀ {l : List LV} {vs : List Value} {x : Int} {lv : LV}, foldI f k x l = some lv → VRL R l vs → ∃ v, VR R lv v ∧ ∀ w, (vs.foldlM g (.int k x)).run P w = .ok v w
  | [], vs, x, lv, h, hv => by
    simp [foldI] at h; subst h
    rw [show vs = [] from hv]
    exact ⟨.int k x, rfl, fun w => by simp⟩
  | y :: l, vs, x, lv, h, hv => by
    obtain ⟨u, r, rfl, hu, hr⟩ := hv
    cases y <;> simp only [foldI] at h <;> try cases h
    rename_i k' n
    cases hk : decide (k = k')
    · simp [hk] at h
    · have hk := of_decide_eq_true hk
      subst hk
      simp [nI_eq] at h
      obtain ⟨v, hv, hrun⟩ := foldI_ok hg h hr
      rw [show u = .int k n from hu]
      exact ⟨v, hv, fun w => by simp [List.foldlM_cons, hg, hrun]⟩
theorem minL_eq (x y : Int) : minL x y = if y < x then y else x := by
  unfold minL
  by_cases h : y < x <;> simp [h]
theorem maxL_eq (x y : Int) : maxL x y = if y > x then y else x := by
  unfold maxL
  by_cases h : y > x <;> simp [h]
theorem lenL_ok {lv : LV} {v : Value} {n : Nat} (h : lenL lv = some n) (hv : VR R lv v) : ∃ base cap, v = .slice base n cap := by
  cases lv <;> simp only [lenL] at h <;> try cases h
  case nils.refl => exact ⟨none, 0, hv⟩
  case sl.refl id off cap => obtain ⟨b, c, _, rfl⟩ := hv; exact ⟨_, _, rfl⟩
  case gs.refl id off el => obtain ⟨b, c, _, _, rfl⟩ := hv; exact ⟨_, _, rfl⟩
theorem firstOf_ok {z n : Nat} {lv : LV} {v : Value} {vs : List LV} (hR : Rel R H w) (h : firstOf H z n lv = some vs) (hv : VR R lv v) : ∃ us, VRL R vs us ∧ (Builtin.firstCells z n v).run P w = .ok us.toArray w := by
  cases lv <;> simp only [firstOf] at h <;> try cases h
  case sl id off len cap =>
    obtain ⟨b, c, hr, rfl⟩ := hv
    obtain ⟨h1, us, h2, h3⟩ := rd_ok hR h hr
    exact ⟨us, h2, run_firstCells_some w z n _ _ _ us (by rw [h2.length, h1]) h3⟩
  case gs id off el len =>
    obtain ⟨b, c, hr, _, rfl⟩ := hv
    obtain ⟨h1, us, h2, h3⟩ := rd_ok hR h hr
    exact ⟨us, h2, run_firstCells_some w z n _ _ _ us (by rw [h2.length, h1]) h3⟩
theorem spotOf_ok {lv : LV} {v : Value} {id off : Nat} (h : spotOf lv = some (id, off)) (hv : VR R lv v) : ∃ b c len cap, R id = some (b, c) ∧ v = .slice (some ⟨b, off, none⟩) len cap := by
  cases lv <;> simp [spotOf] at h
  case sl i o len cap => obtain ⟨rfl, rfl⟩ := h; obtain ⟨b, c, hr, rfl⟩ := hv; exact ⟨b, c, _, _, hr, rfl⟩
  case gs i o el len => obtain ⟨rfl, rfl⟩ := h; obtain ⟨b, c, hr, _, rfl⟩ := hv; exact ⟨b, c, _, _, hr, rfl⟩
theorem evCopy_ok (hR : Rel R H w) {t ty : TypeId} {ts : Array TypeId} {d s : LV} {vd vs : Value} {r : Out} (hts : ts[0]? = some t) (h : evCopy P t d s H nx = some r) (hvd : VR R d vd) (hvs : VR R s vs) :
    ∃ v w', (Builtin.copy_ ts ty #[vd, vs]).run P w = .ok v w' ∧ Did R nx r w w' v := by
  unfold evCopy at h
  cases hu : P.underlying t with
  | none => simp [hu] at h
  | some de =>
    cases de <;> simp only [hu] at h <;> try cases h
    rename_i e
    cases hz : szOf P e with
    | none => simp [hz] at h
    | some z =>
      cases hl1 : lenL d with
      | none => simp [hz, hl1] at h
      | some dl =>
        cases hl2 : lenL s with
        | none => simp [hz, hl1, hl2] at h
        | some sl =>
          simp only [hz, hl1, hl2, nN_eq] at h
          obtain ⟨db, dc, rfl⟩ := lenL_ok hl1 hvd
          obtain ⟨sb, sc, rfl⟩ := lenL_ok hl2 hvs
          split at h
          · rename_i hn
            have hn' : Nat.min sl dl = 0 := hn
            have hd' : Did R nx ⟨.i .i64 0, H, nx, []⟩ w w (goInt 0) := did_same hR rfl
            have hr' : r = ⟨.i .i64 0, H, nx, []⟩ := by
              split at h <;> first | (cases h; done) | (cases h; rfl)
            subst hr'
            refine ⟨_, w, ?_, hd'⟩
            have hf : (Builtin.firstCells z 0 (.slice sb sl sc)).run P w = .ok #[] w := by cases sb <;> simp [Builtin.firstCells, loadCells, loadCellsFrom]
            cases db <;> simp [Builtin.copy_, hts, run_underlying hu, Builtin.lenOf, hn', run_sizeOf' hz, hf, storeCells]
          · rename_i hn
            cases hsp : spotOf d with
            | none => simp [hsp] at h
            | some q =>
              obtain ⟨id, off⟩ := q
              cases hfc : firstOf H z (Nat.min sl dl) s with
              | none => simp [hsp, hfc] at h
              | some vs' =>
                simp only [hsp, hfc] at h
                cases hb : (allOne vs' && Nat.blt id nx)
                · simp [hb] at h
                · simp only [hb, cond_true] at h
                  simp only [Bool.and_eq_true] at hb
                  cases hw : wrt H id off vs' with
                  | none => simp [hw] at h
                  | some H' =>
                    simp [hw] at h; subst h
                    obtain ⟨us, hus, hrun⟩ := firstOf_ok (P := P) hR hfc hvs
                    obtain ⟨b, c, len, cap, hr, hve⟩ := spotOf_ok hsp hvd
                    cases hve
                    obtain ⟨w', hst, hd⟩ := store_ok (P := P) (lv := .i .i64 (Nat.min sl dl : Nat)) (v := goInt (Nat.min sl dl : Nat)) hR hw hr (by simpa using hb.2) hus hb.1 rfl
                    exact ⟨_, w', by simp [Builtin.copy_, hts, run_underlying hu, Builtin.lenOf, run_sizeOf' hz, hrun, hst], hd⟩
end Go.Rx
