/-
  The end of a call that only reads, for every value without names. No program.
-/
import Derived.Test.YtfjilbjofaommaaYw
set_option linter.unusedSimpArgs false
set_option linter.unusedVariables false
namespace Go.Rx
open Go
variable {fs : Fs} {ov : Bool} {ν : Nm}
mutual
def svLV : SV (stdA fs ov) → Option LV
  | .b x => some (.b x)
  | .i k n => some (.i k n)
  | .s x => some (.s x)
  | .nilp => some .nilp
  | .nils => some .nils
  | .nilf => some .nilf
  | .nili => some .nili
  | .agg l => (match svLVs l with | some r => some (.agg r) | none => none)
  | .tup l => (match svLVs l with | some r => some (.tup r) | none => none)
  | _ => none
def svLVs : List (SV (stdA fs ov)) → Option (List LV)
  | [] => some []
  | x :: l => match svLV x, svLVs l with
    | some y, some r => some (y :: r)
    | _, _ => none
end
mutual
theorem svLV_ok : ∀ {v : SV (stdA fs ov)} {lv lv' : LV}, svLV v = some lv → VS ν v lv' → lv' = lv
  | .b x, _, _, h, hv => by simp [svLV] at h; rw [← h]; exact hv
  | .i k n, _, _, h, hv => by simp [svLV] at h; rw [← h]; exact hv
  | .s x, _, _, h, hv => by simp [svLV] at h; rw [← h]; exact hv
  | .nilp, _, _, h, hv => by simp [svLV] at h; rw [← h]; exact hv
  | .nils, _, _, h, hv => by simp [svLV] at h; rw [← h]; exact hv
  | .nilf, _, _, h, hv => by simp [svLV] at h; rw [← h]; exact hv
  | .nili, _, _, h, hv => by simp [svLV] at h; rw [← h]; exact hv
  | .agg l, _, _, h, hv => by
    simp only [svLV] at h
    split at h
    · rename_i r hr
      obtain ⟨a, rfl, ha⟩ := hv
      cases h; rw [svLVs_ok hr ha]
    · cases h
  | .tup l, _, _, h, hv => by
    simp only [svLV] at h
    split at h
    · rename_i r hr
      obtain ⟨a, rfl, ha⟩ := hv
      cases h; rw [svLVs_ok hr ha]
    · cases h
  | .p _ _, _, _, h, _ => by simp [svLV] at h
  | .pe _ _ _ _, _, _, h, _ => by simp [svLV] at h
  | .sl _ _ _ _, _, _, h, _ => by simp [svLV] at h
  | .ls _ _ _, _, _, h, _ => by simp [svLV] at h
  | .fn _ _ _, _, _, h, _ => by simp [svLV] at h
  | .yld _, _, _, h, _ => by simp [svLV] at h
theorem svLVs_ok : ∀ {l : List (SV (stdA fs ov))} {r r' : List LV}, svLVs l = some r → VSL ν l r' → r' = r
  | [], _, _, h, hv => by simp [svLVs] at h; rw [h]; exact hv
  | x :: l, _, _, h, hv => by
    obtain ⟨y, q, rfl, h1, h2⟩ := hv
    simp only [svLVs] at h
    split at h
    · rename_i y' r' e1 e2
      cases h; rw [svLV_ok e1 h1, svLVs_ok e2 h2]
    · cases h
end
theorem end_v {v : SV (stdA fs ov)} {lv : LV} {n : Nat} {M : SH (stdA fs ov)} (h : svLV v = some lv) : doneK lv n v M n [] := ⟨fun _ _ hv => svLV_ok h hv, rfl, rfl⟩
end Go.Rx
