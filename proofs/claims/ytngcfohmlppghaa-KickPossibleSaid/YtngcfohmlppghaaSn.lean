/- Samples that were made, as rows of cells. -/
import Derived.Test.YtngcfohmlppghaaSm
import Derived.Test.YtngcfohmlppghaaPo
namespace Go.Proofs.Ytngcfohmlppghaa
open Go.RowKit

/-- The numbers of samples that were made: sensor, tick, value. -/
def smT (sn c r g s ph p bg : Int) (L : List (Int × Int)) : Nat → Nat → Int := fun i j => match L[i]? with
  | some x => if j = 0 then sn else if j = 1 then ph + x.1 * p else sayV c r g (ph + x.1 * p - bg) + x.2 * s
  | none => 0
theorem smC_get (sn c r g s ph p bg : Int) : ∀ (L : List (Int × Int)) (i j : Nat), i < L.length → j < 3 → (smC sn c r g s ph p bg L)[i * 3 + j]? = some (.int .i64 (smT sn c r g s ph p bg L i j)) := by
  intro L
  induction L with
  | nil => intro i j h; simp at h
  | cons x L ih =>
    intro i j hi hj
    cases i with
    | zero =>
      have : j = 0 ∨ j = 1 ∨ j = 2 := by omega
      rcases this with rfl | rfl | rfl <;> simp [smC, smT]
    | succ i =>
      have h := ih i j (by simpa using hi) hj
      have e : (i + 1) * 3 + j = (i * 3 + j) + 3 := by omega
      rw [e]
      simp only [smC, List.flatMap_cons] at h ⊢
      rw [List.getElem?_append_right (by simp)]
      simpa [smT] using h
theorem Ch.bd {p ph last g n : Int} {L : List (Int × Int)} {a : Int} (h : Ch p ph last g n L a) : -1 ≤ a ∧ ∀ x ∈ L, 0 ≤ x.1 ∧ ph + x.1 * p ≤ last ∧ -n ≤ x.2 ∧ x.2 ≤ n := by
  induction h with
  | nil => exact ⟨Int.le_refl _, fun x hx => by cases hx⟩
  | snoc h1 h2 h3 h4 h5 h6 ih =>
    refine ⟨by have := ih.1; omega, fun x hx => ?_⟩
    rcases List.mem_append.1 hx with hx | hx
    · exact ih.2 x hx
    · simp at hx
      subst hx
      exact ⟨by have := ih.1; omega, h6, h4, h5⟩
/-- What was made lies in the call's own row. -/
theorem own_rows {w : World} {B : Nat} {ty : TypeId} {v : Value} {sn c r g s ph p bg : Int} {L : List (Int × Int)} (h : w.ownsRow B ty 3 v L.length (smC sn c r g s ph p bg L)) (hm : L.length ≤ 9223372036854775807) :
    ∃ ao cp, v = .slice ao L.length cp ∧ IsRows 3 w ao L.length cp (smT sn c r g s ph p bg L) ∧ (0 < L.length → ∃ gb, ao = some ⟨gb, 0, none⟩ ∧ B ≤ gb ∧ ∀ j, w.frozen? ⟨gb, j, none⟩ = false) := by
  rcases h.2 with ⟨rfl, h0⟩ | ⟨gb, cap, cur, rfl, hb, hg, hl, hc, hs, hx⟩
  · exact ⟨none, 0, by rw [h0], ⟨hm, fun h1 => by omega, by omega⟩, fun h1 => by omega⟩
  · refine ⟨_, _, rfl, ⟨hm, fun _ => ⟨gb, 0, rfl, (Array.getElem?_eq_some_iff.1 hg).1, fun i j hi hj => ?_⟩, hl⟩, fun _ => ⟨gb, rfl, hb, fun j => ?_⟩⟩
    · have := h.cells (g := gb) rfl (i * 3 + j) _ (smC_get sn c r g s ph p bg L i j hi hj)
      rw [add_flat] at this
      rw [← this]
      congr 2
      omega
    · simp [World.frozen?, hg]
theorem isRow_lt {w : World} {a : Option Addr} {len cap : Nat} {zs : List Int} (h : IsRow w a len cap zs) : ∀ x, a = some x → 0 < cap → x.block < w.heap.size := by
  intro x hx hc
  rcases h with ⟨h0, _⟩ | ⟨y, rfl, h1, h2, h3, h4, h5⟩
  · rw [h0] at hx; cases hx
  · cases hx
    have := h4 0 (by omega)
    exact lt_of_cell (p := x) (by simpa [Addr.add] using this)
theorem isRow_kept {w w' : World} {a : Option Addr} {len cap : Nat} {zs : List Int} (h : IsRow w a len cap zs) (hb : Below w.heap.size w w') : IsRow w' a len cap zs := by
  have hlt := isRow_lt h
  rcases h with h0 | ⟨x, rfl, h1, h2, h3, h4, h5⟩
  · exact .inl h0
  · refine .inr ⟨x, rfl, h1, h2, h3, fun i hi => ?_, h5⟩
    rw [hb.cell (p := x.add i) (by rw [Addr.add]; split <;> exact hlt x rfl (by omega))]
    exact h4 i hi
theorem smT_bd {sn c r g s ph p bg last n l' : Int} {L : List (Int × Int)} {la : Int} (h : Ch p ph last (l' + 1) n L la) (hr : 0 ≤ r ∧ r ≤ 16777216) (hg : 0 ≤ g ∧ g ≤ 4096) (hp0 : 0 ≤ ph) (hp : 0 ≤ p) (hl : last ≤ 20000) (hbg : 0 ≤ bg) (hs0 : 0 ≤ s) (hs1 : s ≤ 1048576) (hn : n ≤ 15) (sn0 : 0 ≤ sn) (sn1 : sn ≤ 100) :
    ∀ i j, -1125899906842624 ≤ smT sn c r g s ph p bg L i j ∧ smT sn c r g s ph p bg L i j ≤ 1125899906842624 := by
  intro i j
  unfold smT
  cases hx : L[i]? with
  | none => simp
  | some x =>
    obtain ⟨h1, h2, h3, h4⟩ := h.bd.2 x (List.mem_of_getElem? hx)
    have h5 := Int.mul_nonneg h1 hp
    obtain ⟨y0, y1⟩ := say_bd (c := c) (n := ph + x.1 * p - bg) hr hg (by omega)
    obtain ⟨m0, m1⟩ := mul_abs (show (-15 : Int) ≤ x.2 by omega) (show x.2 ≤ 15 by omega) hs0 hs1
    simp only
    repeat' split
    all_goals omega
/-- One number of one sample is another one. -/
def upd2 (T : Nat → Nat → Int) (i j : Nat) (z : Int) : Nat → Nat → Int := fun i' j' => if i' = i ∧ j' = j then z else T i' j'
theorem IsRows.set {w : World} {gb len cap : Nat} {T : Nat → Nat → Int} (h : IsRows 3 w (some ⟨gb, 0, none⟩) len cap T) {i j : Nat} (hi : i < len) (hj : j < 3) (z : Int) : IsRows 3 (w.setCell ⟨gb, i * 3 + j, none⟩ (.int .i64 z)) (some ⟨gb, 0, none⟩) len cap (upd2 T i j z) := by
  obtain ⟨h0, h1, h2⟩ := h
  refine ⟨h0, fun hl => ?_, h2⟩
  obtain ⟨b, off, ha, hlt, hc⟩ := h1 hl
  cases ha
  refine ⟨gb, 0, rfl, by simpa using hlt, fun i' j' hi' hj' => ?_⟩
  unfold upd2
  by_cases e : i' = i ∧ j' = j
  · obtain ⟨rfl, rfl⟩ := e
    rw [if_pos ⟨rfl, rfl⟩]
    have := hc i' j' hi' hj'
    rw [show 0 + i' * 3 + j' = i' * 3 + j' by omega] at this ⊢
    exact World.cell?_setCell_same _ _ _ this
  · rw [if_neg e]
    refine (World.cell?_setCell_other _ _ _ _ (fun h3 => e ?_)).trans (hc i' j' hi' hj')
    have := congrArg Addr.off h3
    simp only at this
    omega
end Go.Proofs.Ytngcfohmlppghaa
