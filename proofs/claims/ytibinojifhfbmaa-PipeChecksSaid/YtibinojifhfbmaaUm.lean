/-
  Layer 4: strings of tubes. No program.
-/
import Derived.Test.YtibinojifhfbmaaLe
import Derived.Test.YtibinojifhfbmaaFm
set_option linter.unusedSimpArgs false
set_option linter.unusedVariables false
namespace Go.Rx
open Go
theorem mul_bd {x y X Y : Int} (hx : 0 ≤ x) (hx2 : x ≤ X) (hy : 0 ≤ y) (hy2 : y ≤ Y) : 0 ≤ x * y ∧ x * y ≤ X * Y := ⟨Int.mul_nonneg hx hy, Int.mul_le_mul hx2 hy2 hy (by omega)⟩
def TubeP (a b c d e f g h k : Int) : Prop := 1 ≤ a ∧ a ≤ 400 ∧ 100 ≤ b ∧ b ≤ 4000 ∧ 1 ≤ c ∧ c ≤ 4000000 ∧ 1 ≤ d ∧ d ≤ 400 ∧ 2 ≤ e ∧ e ≤ 90 ∧ 1 ≤ f ∧ f ≤ 4398046511104 ∧ 1 ≤ g ∧ g ≤ 281474976710656 ∧ 0 ≤ h ∧ h ≤ 17179869184 ∧ 0 ≤ k ∧ k ≤ 1099511627776
instance {a b c d e f g h k : Int} : Decidable (TubeP a b c d e f g h k) := by unfold TubeP; infer_instance
def TubeAt (l : Ll) (j : Int) : Prop := TubeP (Ll.get l j 0) (Ll.get l j 1) (Ll.get l j 2) (Ll.get l j 3) (Ll.get l j 4) (Ll.get l j 5) (Ll.get l j 6) (Ll.get l j 7) (Ll.get l j 8)
instance {l : Ll} {j : Int} : Decidable (TubeAt l j) := by unfold TubeAt; infer_instance
def pbad (l : Ll) (j : Int) : Bool := !decide (TubeAt l j)
def fbad (l : Ll) : Int := leastN (pbad l) l.length 0
theorem fbad_b (l : Ll) : 0 ≤ fbad l ∧ fbad l ≤ l.length := by
  obtain ⟨a, b, _, _⟩ := leastN_spec (pbad l) l.length 0
  exact ⟨a, by unfold fbad; omega⟩
theorem fbad_ok {l : Ll} {j : Int} (h0 : 0 ≤ j) (h1 : j < fbad l) : TubeAt l j := by
  have := (leastN_spec (pbad l) l.length 0).2.2.1 j h0 h1
  simpa [pbad] using this
def sumI (f : Int → Int) : Nat → Int
  | 0 => 0
  | n + 1 => sumI f n + f n
theorem sumI_succ (f : Int → Int) {k : Int} (h : 0 ≤ k) : sumI f (k + 1).toNat = sumI f k.toNat + f k := by
  rw [show (k + 1).toNat = k.toNat + 1 by omega]
  show sumI f k.toNat + f (k.toNat : Int) = _
  rw [Int.toNat_of_nonneg h]
theorem sumI_bd {f : Int → Int} {A B : Int} : ∀ (n : Nat), (∀ j : Int, 0 ≤ j → j < n → A ≤ f j ∧ f j ≤ B) → n * A ≤ sumI f n ∧ sumI f n ≤ n * B
  | 0, _ => by simp [sumI]
  | n + 1, h => by
    obtain ⟨a, b⟩ := sumI_bd n fun j h0 h1 => h j h0 (by omega)
    obtain ⟨c, d⟩ := h n (by omega) (by omega)
    have e1 : ((n + 1 : Nat) : Int) * A = n * A + A := by rw [Int.natCast_add, Int.add_mul]; simp
    have e2 : ((n + 1 : Nat) : Int) * B = n * B + B := by rw [Int.natCast_add, Int.add_mul]; simp
    show _ ≤ sumI f n + f n ∧ sumI f n + f n ≤ _
    omega
def tubeLen (l : Ll) (j : Int) : Int := Ll.get l j 0 * Ll.get l j 1
def lenI (l : Ll) : Int := sumI (tubeLen l) l.length
def wetI (a s mud : Int) : Int := if 0 ≤ a ∧ a ≤ 1000000000 ∧ 0 ≤ s ∧ s ≤ 1000000000 ∧ 0 ≤ mud ∧ mud ≤ 1000000000 then a - mud * s else 0
def tubeWt (l : Ll) (mud j : Int) : Int := wetI (Ll.get l j 2) (Ll.get l j 3) mud * Ll.get l j 0 * Ll.get l j 1
def OkB (l : Ll) : Bool := decide (l.length ≤ 8 ∧ fbad l = l.length)
def chkI (l : Ll) : Int := if l.length = 0 then 6 else if 8 < l.length then 8 else if fbad l < l.length then 2 else if 1048576 < lenI l then 5 else 0
def lengthI (l : Ll) : Int := if chkI l = 0 then lenI l else 0
def weightI (l : Ll) (mud : Int) : Int := if chkI l = 0 ∧ 0 ≤ mud ∧ mud ≤ 40000 then sumI (tubeWt l mud) l.length else 0
theorem ok_of {l : Ll} (h : OkB l = true) : l.length ≤ 8 ∧ fbad l = l.length := by simpa [OkB] using h
theorem chk_ok {l : Ll} (h : chkI l = 0) : OkB l = true ∧ 0 < l.length ∧ lenI l ≤ 1048576 := by
  unfold chkI at h
  split at h
  · omega
  · split at h
    · omega
    · split at h
      · omega
      · split at h
        · omega
        · have := fbad_b l
          exact ⟨by simp [OkB]; omega, by omega, by omega⟩
theorem len_bd {l : Ll} {j : Int} (h : TubeAt l j) : 100 ≤ tubeLen l j ∧ tubeLen l j ≤ 1600000 := by
  obtain ⟨a1, a2, b1, b2, _⟩ := h
  have := mul_bd (show 0 ≤ Ll.get l j 0 by omega) a2 (show 0 ≤ Ll.get l j 1 by omega) b2
  have h2 : 1 * 100 ≤ Ll.get l j 0 * Ll.get l j 1 := Int.mul_le_mul a1 b1 (by omega) (by omega)
  unfold tubeLen
  omega
theorem wet_bd {l : Ll} {mud j : Int} (h : TubeAt l j) (m0 : 0 ≤ mud) (m1 : mud ≤ 40000) : -16000000 ≤ wetI (Ll.get l j 2) (Ll.get l j 3) mud ∧ wetI (Ll.get l j 2) (Ll.get l j 3) mud ≤ 4000000 := by
  obtain ⟨_, _, _, _, c1, c2, d1, d2, _⟩ := h
  have := mul_bd m0 m1 (show 0 ≤ Ll.get l j 3 by omega) d2
  unfold wetI
  split <;> omega
theorem wt_bd {l : Ll} {mud j : Int} (h : TubeAt l j) (m0 : 0 ≤ mud) (m1 : mud ≤ 40000) : (-8000000000 ≤ wetI (Ll.get l j 2) (Ll.get l j 3) mud * Ll.get l j 0 ∧ wetI (Ll.get l j 2) (Ll.get l j 3) mud * Ll.get l j 0 ≤ 8000000000) ∧ -64000000000000 ≤ tubeWt l mud j ∧ tubeWt l mud j ≤ 64000000000000 := by
  obtain ⟨w0, w1⟩ := wet_bd h m0 m1
  obtain ⟨a1, a2, b1, b2, _⟩ := h
  unfold tubeWt
  generalize wetI (Ll.get l j 2) (Ll.get l j 3) mud = w at *
  generalize Ll.get l j 0 = a at *
  generalize Ll.get l j 1 = b at *
  have u1 := mul_bd (show 0 ≤ w + 16000000 by omega) (show w + 16000000 ≤ 20000000 by omega) (show 0 ≤ a by omega) a2
  have e1 : (w + 16000000) * a = w * a + 16000000 * a := Int.add_mul ..
  have v0 : -8000000000 ≤ w * a ∧ w * a ≤ 8000000000 := by omega
  refine ⟨v0, ?_⟩
  generalize w * a = p at *
  have u2 := mul_bd (show 0 ≤ p + 8000000000 by omega) (show p + 8000000000 ≤ 16000000000 by omega) (show 0 ≤ b by omega) b2
  have e2 : (p + 8000000000) * b = p * b + 8000000000 * b := Int.add_mul ..
  omega

/-! ### Joints -/
def jBlock (a b : Int) (n : Nat) : Ll := (List.range n).map fun (m : Nat) => [a + ((m : Int) + 1) * b]
theorem jBlock_succ (a b : Int) (n : Nat) : jBlock a b (n + 1) = jBlock a b n ++ [[a + ((n : Int) + 1) * b]] := by simp [jBlock, List.range_succ]
theorem jBlock_len (a b : Int) (n : Nat) : (jBlock a b n).length = n := by simp [jBlock]
def jT (l : Ll) : Nat → Ll
  | 0 => [[0]]
  | i + 1 => jT l i ++ jBlock (sumI (tubeLen l) i) (Ll.get l i 1) (Ll.get l i 0).toNat
def jointsL (l : Ll) : Ll := if chkI l = 0 then jT l l.length else []
theorem jBlock_rows {a b : Int} {n : Nat} : ∀ x ∈ jBlock a b n, x.length = 1 := by
  intro x hx
  simp [jBlock] at hx
  obtain ⟨_, _, rfl⟩ := hx
  rfl
theorem jT_rows {l : Ll} : ∀ {i : Nat}, ∀ x ∈ jT l i, x.length = 1
  | 0, x, hx => by simp [jT] at hx; subst hx; rfl
  | i + 1, x, hx => by
    simp only [jT, List.mem_append] at hx
    rcases hx with hx | hx
    · exact jT_rows x hx
    · exact jBlock_rows x hx
theorem jointsL_rows {l : Ll} : ∀ x ∈ jointsL l, x.length = 1 := by
  unfold jointsL
  split
  · exact jT_rows
  · simp
theorem jT_step {l : Ll} {i : Nat} : (jT l (i + 1)).length = (jT l i).length + (Ll.get l i 0).toNat := by
  show (jT l i ++ jBlock (sumI (tubeLen l) i) (Ll.get l i 1) (Ll.get l i 0).toNat).length = _
  rw [List.length_append, jBlock_len]
theorem jT_len {l : Ll} (i : Nat) (h : ∀ j : Int, 0 ≤ j → j < i → TubeAt l j) : (jT l i).length ≤ 1 + 400 * i := by
  induction i with
  | zero => simp [jT]
  | succ i ih =>
    have := ih fun j a b => h j a (by omega)
    obtain ⟨a1, a2, _⟩ := h (i : Int) (by omega) (by omega)
    have e := jT_step (l := l) (i := i)
    omega
theorem jT_next {l : Ll} {i : Int} (h : 0 ≤ i) : jT l (i + 1).toNat = jT l i.toNat ++ jBlock (sumI (tubeLen l) i.toNat) (Ll.get l i 1) (Ll.get l i 0).toNat := by
  rw [show (i + 1).toNat = i.toNat + 1 by omega]
  show jT l i.toNat ++ jBlock (sumI (tubeLen l) i.toNat) (Ll.get l (i.toNat : Int) 1) (Ll.get l (i.toNat : Int) 0).toNat = _
  rw [Int.toNat_of_nonneg h]
def nearP (g : Ll) (lo hi j : Int) : Bool := decide (lo ≤ Ll.get g j 0) && decide (Ll.get g j 0 ≤ hi)
def nearI (g : Ll) (lo hi : Int) : Int := leastN (nearP g lo hi) g.length 0
def nearB (g : Ll) (lo hi : Int) : Bool := decide (nearI g lo hi < g.length)
theorem joints_len (l : Ll) : (jointsL l).length ≤ 4000 := by
  unfold jointsL
  split
  · rename_i h
    obtain ⟨k1, _, _⟩ := chk_ok h
    obtain ⟨o1, o2⟩ := ok_of k1
    have := jT_len (l := l) l.length fun j a b => fbad_ok a (show j < fbad l by omega)
    omega
  · simp
/-! ### Equal lists -/
def rowEq (a b : Ll) (j : Int) : Bool := decide (Ll.get a j 0 = Ll.get b j 0) && (decide (Ll.get a j 1 = Ll.get b j 1) && (decide (Ll.get a j 2 = Ll.get b j 2) && (decide (Ll.get a j 3 = Ll.get b j 3) && (decide (Ll.get a j 4 = Ll.get b j 4) && (decide (Ll.get a j 5 = Ll.get b j 5) && (decide (Ll.get a j 6 = Ll.get b j 6) && (decide (Ll.get a j 7 = Ll.get b j 7) && decide (Ll.get a j 8 = Ll.get b j 8))))))))
def diffI (a b : Ll) : Int := leastN (fun j => !rowEq a b j) a.length 0
def sameB (a b : Ll) : Bool := decide (a.length = b.length ∧ ¬ diffI a b < a.length)
def diffL (a b : Ll) : Int := leastN (fun j => !decide (Ll.get a j 0 = Ll.get b j 0)) (min a.length b.length) 0
def sameLB (a b : Ll) : Bool := decide (a.length = b.length ∧ ¬ diffL a b < min a.length b.length)
theorem sameB_self (l : Ll) : sameB l l = true := by
  unfold sameB diffI
  refine decide_eq_true ⟨rfl, fun h => ?_⟩
  obtain ⟨j, _, _, h3⟩ := (leastN_lt (fun j => !rowEq l l j) l.length).1 h
  simp [rowEq] at h3
theorem sameLB_self (l : Ll) : sameLB l l = true := by
  unfold sameLB diffL
  refine decide_eq_true ⟨rfl, fun h => ?_⟩
  obtain ⟨j, _, _, h3⟩ := (leastN_lt (fun j => !decide (Ll.get l j 0 = Ll.get l j 0)) (min l.length l.length)).1 (by omega)
  simp at h3
end Go.Rx
