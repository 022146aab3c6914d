/-
  A symbolic run: results of every shape, with new lists in them. No program.
-/
import Derived.Test.YtfjilbjofaommaaYw
set_option linter.unusedSimpArgs false
set_option linter.unusedVariables false
set_option linter.unusedSectionVars false
namespace Go.Rx
open Go
/-- A result: its lists are numbered. -/
inductive GV where
  | ls (own : Bool) (k : Nat) (n : Int)
  | b (x : Bool)
  | i (k : IntKind) (n : Int)
  | agg (l : List GV)
  | tup (l : List GV)
abbrev GO := TypeId × List CK × Bool × Ll
variable {fs : Fs} {ov : Bool} {ν : Nm} {P : Program} {M : SH (stdA fs ov)} {snx nx : Nat} {H : Hp}
mutual
def VG (ν : Nm) : GV → LV → Prop
  | .ls own k n, v => LSr (ν k) own n v
  | .b x, v => v = .b x
  | .i k n, v => v = .i k n
  | .agg l, v => ∃ r, v = .agg r ∧ VGL ν l r
  | .tup l, v => ∃ r, v = .tup r ∧ VGL ν l r
def VGL (ν : Nm) : List GV → List LV → Prop
  | [], r => r = []
  | x :: l, r => ∃ y q, r = y :: q ∧ VG ν x y ∧ VGL ν l q
end
mutual
/-- The value, its lists named from a name on. -/
def GV.sv (d : Nat) : GV → SV (stdA fs ov)
  | .ls own k n => .ls own (d + k) n
  | .b x => .b x
  | .i k n => .i k n
  | .agg l => .agg (GV.svL d l)
  | .tup l => .tup (GV.svL d l)
def GV.svL (d : Nat) : List GV → List (SV (stdA fs ov))
  | [] => []
  | x :: l => GV.sv d x :: GV.svL d l
end
def GO.so (o : GO) : SO (stdA fs ov) := .list o.1 o.2.1 o.2.2.1 o.2.2.2
def memG (d : Nat) : List GO → SH (stdA fs ov) → SH (stdA fs ov)
  | [], M => M
  | o :: l, M => memG (d + 1) l (M.set d (some (GO.so o)))
def GivesV (P : Program) (aw m g : Nat) (args : List LV) (H : Hp) (nx : Nat) (v : GV) (os : List GO) : Prop := ∃ r ν2, CN P aw m (.f g) args H nx = some r ∧ r.o.nx ≤ r.mx ∧ nx ≤ r.o.nx ∧ r.o.wr = [] ∧ (∀ q, q < nx → r.o.H.get q = H.get q) ∧ VG ν2 v r.o.v ∧
  (∀ (k : Nat) (o : GO), os[k]? = some o → OS (fs := ⟨fun _ _ _ => 0, fun _ _ _ => false, fun _ _ _ => [], fun _ _ => none⟩) (ov := true) ν2 r.o.H k (GO.so o)) ∧ (∀ k q o, ν2 k = some (q, o) → nx ≤ q ∧ q < r.o.nx ∧ k < os.length) ∧
  (∀ (k k' q o o' : Nat) (a b : GO), os[k]? = some a → a.2.2.1 = true → os[k']? = some b → ν2 k = some (q, o) → ν2 k' = some (q, o') → k = k')
mutual
/-- A value that a call has left, told by a result: src names its lists. -/
def Mt (src : List (Option Nat)) : GV → SV (stdA fs ov) → Prop
  | .ls own k n, .ls own' id n' => own' = own ∧ n' = n ∧ src[k]? = some (some id)
  | .ls own k n, .nils => n = 0 ∧ src[k]? = some none
  | .b x, .b y => y = x
  | .i k n, .i k' n' => k' = k ∧ n' = n
  | .agg l, .agg l' => MtL src l l'
  | .tup l, .tup l' => MtL src l l'
  | _, _ => False
def MtL (src : List (Option Nat)) : List GV → List (SV (stdA fs ov)) → Prop
  | [], [] => True
  | x :: l, y :: r => Mt src x y ∧ MtL src l r
  | _, _ => False
end
def SrcOK (n : Nat) (M : SH (stdA fs ov)) : List (Option Nat) → List GO → Prop
  | [], [] => True
  | some id :: r, o :: l => (n ≤ id ∧ M.get id = some (GO.so o) ∧ some id ∉ r) ∧ SrcOK n M r l
  | none :: r, o :: l => o.2.2.2 = [] ∧ SrcOK n M r l
  | _, _ => False
def giveV (n : Nat) (v : GV) (os : List GO) (v' : SV (stdA fs ov)) (M : SH (stdA fs ov)) (snx' : Nat) (wr : List Nat) : Prop := wr = [] ∧ ∃ src, Mt src v v' ∧ SrcOK n M src os
def pickN (ν : Nm) (src : List (Option Nat)) : Nm := fun k => match src[k]? with | some (some id) => ν id | _ => none
mutual
theorem mt_ok {ν' : Nm} {src : List (Option Nat)} : ∀ {g : GV} {v : SV (stdA fs ov)} {lv : LV}, Mt src g v → VS ν' v lv → VG (pickN ν' src) g lv
  | .ls own k n, v, lv, h, hv => by
    cases v with
    | ls own' id n' =>
      obtain ⟨rfl, rfl, h3⟩ := h
      show LSr (pickN ν' src k) _ _ lv
      rw [pickN, h3]; exact hv
    | nils =>
      obtain ⟨rfl, h3⟩ := h
      exact ⟨Int.le_refl _, .inl ⟨hv, rfl⟩⟩
    | _ => exact h.elim
  | .b x, v, lv, h, hv => by
    cases v with
    | b y => obtain rfl : y = x := h; exact hv
    | _ => exact h.elim
  | .i k n, v, lv, h, hv => by
    cases v with
    | i k' n' => obtain ⟨rfl, rfl⟩ : k' = k ∧ n' = n := h; exact hv
    | _ => exact h.elim
  | .agg l, v, lv, h, hv => by
    cases v with
    | agg r => obtain ⟨q, rfl, hq⟩ := hv; exact ⟨q, rfl, mtL_ok h hq⟩
    | _ => exact h.elim
  | .tup l, v, lv, h, hv => by
    cases v with
    | tup r => obtain ⟨q, rfl, hq⟩ := hv; exact ⟨q, rfl, mtL_ok h hq⟩
    | _ => exact h.elim
theorem mtL_ok {ν' : Nm} {src : List (Option Nat)} : ∀ {g : List GV} {v : List (SV (stdA fs ov))} {lv : List LV}, MtL src g v → VSL ν' v lv → VGL (pickN ν' src) g lv
  | [], [], lv, h, hv => hv
  | [], _ :: _, lv, h, hv => h.elim
  | _ :: _, [], lv, h, hv => h.elim
  | x :: l, y :: r, lv, h, hv => by
    obtain ⟨z, q, rfl, h1, h2⟩ := hv
    exact ⟨z, q, rfl, mt_ok h.1 h1, mtL_ok h.2 h2⟩
end
theorem src_at {n : Nat} {M : SH (stdA fs ov)} : ∀ {src : List (Option Nat)} {os : List GO}, SrcOK n M src os → src.length = os.length ∧ (∀ (k : Nat) (o : GO), os[k]? = some o → (∃ id, src[k]? = some (some id) ∧ n ≤ id ∧ M.get id = some (GO.so o)) ∨ (src[k]? = some none ∧ o.2.2.2 = [])) ∧ (∀ (k k' id : Nat), src[k]? = some (some id) → src[k']? = some (some id) → k = k')
  | [], [], _ => ⟨rfl, fun k o h => by simp at h, fun k k' id h => by simp at h⟩
  | some id :: r, o :: l, h => by
    obtain ⟨⟨h1, h2, h3⟩, h4⟩ := h
    obtain ⟨a, b, c⟩ := src_at h4
    have no : ∀ k : Nat, r[k]? ≠ some (some id) := fun k e => h3 (List.mem_of_getElem? e)
    refine ⟨by simp [a], fun k o' hk => ?_, fun k k' id' hk hk' => ?_⟩
    · cases k with
      | zero => simp at hk; subst hk; exact .inl ⟨id, rfl, h1, h2⟩
      | succ k => simp at hk; simpa using b k o' hk
    · cases k with
      | zero =>
        cases k' with
        | zero => rfl
        | succ k' => simp at hk hk'; subst hk; exact absurd hk' (no k')
      | succ k =>
        cases k' with
        | zero => simp at hk hk'; subst hk'; exact absurd hk (no k)
        | succ k' => simp at hk hk'; rw [c k k' id' hk hk']
  | none :: r, o :: l, h => by
    obtain ⟨h1, h4⟩ := h
    obtain ⟨a, b, c⟩ := src_at h4
    refine ⟨by simp [a], fun k o' hk => ?_, fun k k' id' hk hk' => ?_⟩
    · cases k with
      | zero => simp at hk; subst hk; exact .inr ⟨rfl, h1⟩
      | succ k => simp at hk; simpa using b k o' hk
    · cases k with
      | zero => simp at hk
      | succ k =>
        cases k' with
        | zero => simp at hk'
        | succ k' => simp at hk hk'; rw [c k k' id' hk hk']
  | [], _ :: _, h => h.elim
  | some _ :: _, [], h => h.elim
  | none :: _, [], h => h.elim
theorem gv_of {aw d U n g : Nat} {l : SpL (stdA fs ov)} {lp : FuncId → LoopS (stdA fs ov)} (hsp : SpOK P aw d l) (haw : (spOf l aw).isSome = true) (hlp : LoopsAll P aw d lp) (hU : U ≤ LL) (hg : g ≠ aw) {m : Nat} (hm : m = n + d + 1)
    {args : List (SV (stdA fs ov))} {M : SH (stdA fs ov)} {snx : Nat} {v : GV} {os : List GO} (h : sFunc P U (sCall P U (spOf l) lp n) lp g args M snx (giveV snx v os)) (hrows : ∀ o ∈ os, ∀ x ∈ o.2.2.2, x.length = o.2.1.length)
    {ν : Nm} {largs : List LV} {H : Hp} {nx : Nat} (ha : VSL ν args largs) (hM : HS ν M snx H nx) (hfs : fs.rng = rngAt P := by rfl) (hy : noY args = true := by rfl) : GivesV P aw m g largs H nx v os := by
  subst hm
  obtain ⟨r, h1, h2, o, ν', v', M', snx', wr, e1, hG, hw, src, hmt, hsrc⟩ := sFunc_ok (sCall_ok hsp haw hlp hU hfs n) hfs (fun g fn c h1 h2 => hlp (n + d) (by omega) g fn c h1 h2) hU hy h ha hM
  cases e1
  subst hw
  rw [← CN_step hg] at h1
  have hwr : r.o.wr = [] := by
    cases hq : r.o.wr with
    | nil => rfl
    | cons q l => obtain ⟨id, hid, _⟩ := hG.wr q (by rw [hq]; simp); cases hid
  have hkeep : ∀ q, q < nx → r.o.H.get q = H.get q := fun q hq => hG.keep q hq (by rw [hwr]; simp)
  obtain ⟨s1, s2, s3⟩ := src_at hsrc
  have hp : ∀ {k q o}, pickN ν' src k = some (q, o) → ∃ id, src[k]? = some (some id) ∧ ν' id = some (q, o) := fun {k q o} h => by
    unfold pickN at h
    split at h
    · rename_i id e; exact ⟨id, e, h⟩
    · cases h
  refine ⟨r, pickN ν' src, h1, h2, hG.up, hwr, hkeep, mt_ok hmt hG.v, fun k o ho => ?_, fun k q o hk => ?_, fun k k' q o o' a b ha hown hb hk hk' => ?_⟩
  · rcases s2 k o ho with ⟨id, a1, a2, a3⟩ | ⟨a1, a2⟩
    · obtain ⟨_, b1, b2, b3⟩ := hG.hs.at_ id _ a3
      have e : pickN ν' src k = ν' id := by unfold pickN; rw [a1]
      exact ⟨b1, by rw [e]; exact b2, by rw [e]; exact b3⟩
    · have e : pickN ν' src k = none := by unfold pickN; rw [a1]
      exact ⟨hrows o (List.mem_of_getElem? ho), .inl (by rw [a2]; rfl), fun _ r o h => by rw [e] at h; cases h⟩
  · obtain ⟨id, a1, a2⟩ := hp hk
    have hkl : k < src.length := (List.getElem?_eq_some_iff.1 a1).1
    have hge : snx ≤ id := by
      obtain ⟨o', ho'⟩ : ∃ o', os[k]? = some o' := ⟨_, List.getElem?_eq_getElem (by omega)⟩
      rcases s2 k o' ho' with ⟨id', b1, b2, _⟩ | ⟨b1, _⟩
      · rw [a1] at b1; cases b1; exact b2
      · rw [a1] at b1; cases b1
    exact ⟨hG.nw id q o hge a2, (hG.hs.lt id q o a2).1, by omega⟩
  · obtain ⟨id, a1, a2⟩ := hp hk
    obtain ⟨id', b1, b2⟩ := hp hk'
    rcases s2 k a ha with ⟨i1, c1, _, c3⟩ | ⟨c1, _⟩
    · rw [a1] at c1; cases c1
      rcases s2 k' b hb with ⟨i2, d1, _, d3⟩ | ⟨d1, _⟩
      · rw [b1] at d1; cases d1
        have := hG.hs.inj id id' q o o' _ _ c3 hown d3 a2 b2
        subst this
        exact s3 k k' id a1 b1
      · rw [b1] at d1; cases d1
    · rw [a1] at c1; cases c1
/-- Names of new lists, laid behind the names that are there. -/
def addN (ν : Nm) (d : Nat) (ν2 : Nm) : Nm := fun id => if id < d then ν id else ν2 (id - d)
theorem memG_get : ∀ {l : List GO} {d : Nat} {M : SH (stdA fs ov)} (id : Nat), (memG d l M).get id = if d ≤ id ∧ id < d + l.length then (l[id - d]?).map GO.so else M.get id
  | [], d, M, id => by simp [memG]; omega
  | o :: l, d, M, id => by
    rw [memG, memG_get]
    by_cases h : d + 1 ≤ id ∧ id < d + 1 + l.length
    · rw [if_pos h, if_pos (by simp; omega), show id - d = (id - (d + 1)) + 1 by omega, List.getElem?_cons_succ]
    · rw [if_neg h, Al.get_set]
      by_cases e : id = d
      · subst e; rw [if_pos rfl, if_pos (by simp)]; simp
      · rw [if_neg e, if_neg (by simp; omega)]
mutual
theorem vg_sv {ν2 : Nm} {d : Nat} : ∀ {g : GV} {lv : LV}, VG ν2 g lv → VS (fs := fs) (ov := ov) (addN ν d ν2) (g.sv d) lv
  | .ls own k n, lv, h => by
    show LSr (addN ν d ν2 (d + k)) own n lv
    rw [addN, if_neg (by omega), show d + k - d = k by omega]; exact h
  | .b x, lv, h => h
  | .i k n, lv, h => h
  | .agg l, lv, h => by obtain ⟨r, rfl, hr⟩ := h; exact ⟨r, rfl, vgL_sv hr⟩
  | .tup l, lv, h => by obtain ⟨r, rfl, hr⟩ := h; exact ⟨r, rfl, vgL_sv hr⟩
theorem vgL_sv {ν2 : Nm} {d : Nat} : ∀ {g : List GV} {lv : List LV}, VGL ν2 g lv → VSL (fs := fs) (ov := ov) (addN ν d ν2) (GV.svL d g) lv
  | [], lv, h => h
  | x :: l, lv, h => by
    obtain ⟨y, q, rfl, h1, h2⟩ := h
    exact ⟨y, q, rfl, vg_sv h1, vgL_sv h2⟩
end
theorem gv_got {aw m g : Nat} {largs : List LV} {v : GV} {os : List GO} (hp : GivesV P aw m g largs H nx v os) {K : KS (stdA fs ov)} (hM : HS ν M snx H nx) (hK : K (v.sv snx) (memG snx os M) (snx + os.length + 1) []) : GotOp ν snx H nx K (CN P aw m (.f g) largs H nx) := by
  obtain ⟨r, ν2, h1, h2, h3, h4, h5, h6, h7, h8, h9⟩ := hp
  have hlow : ∀ {id x}, ν id = some x → id < snx ∧ x.1 < nx := fun {id x} h => by have := hM.lt id x.1 x.2 h; omega
  have hle : NLe ν (addN ν snx ν2) := fun id y hy => by rw [addN, if_pos (hlow hy).1]; exact hy
  have hi : ∀ {id x}, ¬ id < snx → addN ν snx ν2 id = some x → ν2 (id - snx) = some x := fun h e => by rwa [addN, if_neg h] at e
  have lo : ∀ {id x}, id < snx → addN ν snx ν2 id = some x → ν id = some x := fun h e => by rwa [addN, if_pos h] at e
  have hgl : ∀ {id so}, id < snx → (memG snx os M).get id = some so → M.get id = some so := fun h e => by rwa [memG_get, if_neg (by omega)] at e
  have hgh : ∀ {id so}, ¬ id < snx → (memG snx os M).get id = some so → ∃ o : GO, os[id - snx]? = some o ∧ so = (GO.so o) := fun {id so} h e => by
    rw [memG_get] at e
    split at e
    · cases ho : os[id - snx]? with
      | none => rw [ho] at e; cases e
      | some o => rw [ho] at e; cases e; exact ⟨o, rfl, rfl⟩
    · have := (hM.at_ id so e).1; omega
  refine ⟨r, h1, h2, _, addN ν snx ν2, v.sv snx, memG snx os M, snx + os.length + 1, [], rfl, ⟨fun id hid => if_pos hid, fun id q o a b => (h8 _ q o (hi (by omega) b)).1, h3, by omega, ⟨fun id so hg => ?_, fun id q o hq => ?_, fun id id' q o o' so so' hg hm hg' k1 k2 => ?_⟩, vg_sv h6, fun q hq => (by rw [h4] at hq; cases hq), fun q hq _ => h5 q hq, fun q hq => (by rw [h4] at hq; cases hq), fun _ => by omega⟩, hK⟩
  · by_cases hs : id < snx
    · obtain ⟨a, b⟩ := hM.at_ id so (hgl hs hg)
      exact ⟨by omega, b.sub hle (if_pos hs) fun q o lo c1 c2 => by rw [h5 q (hM.lt id q o c1).1]; exact c2⟩
    · obtain ⟨o, ho, rfl⟩ := hgh hs hg
      have hl := (List.getElem?_eq_some_iff.1 ho).1
      obtain ⟨b1, b2, b3⟩ := h7 _ _ ho
      have e : addN ν snx ν2 id = ν2 (id - snx) := if_neg hs
      exact ⟨by omega, b1, by rw [e]; exact b2, by rw [e]; exact b3⟩
  · by_cases hs : id < snx
    · have := hlow (lo hs hq); exact ⟨by omega, by omega⟩
    · have := h8 _ q o (hi hs hq); omega
  · by_cases hs : id < snx
    · by_cases hs' : id' < snx
      · exact hM.inj id id' q o o' so so' (hgl hs hg) hm (hgl hs' hg') (lo hs k1) (lo hs' k2)
      · have a := (hlow (lo hs k1)).2
        have := h8 _ q o' (hi hs' k2); simp only at a; omega
    · by_cases hs' : id' < snx
      · have a := (hlow (lo hs' k2)).2
        have := h8 _ q o (hi hs k1); simp only at a; omega
      · obtain ⟨a, ha, rfl⟩ := hgh hs hg
        obtain ⟨b, hb, rfl⟩ := hgh hs' hg'
        have := h9 _ _ q o o' a b ha hm hb (hi hs k1) (hi hs' k2)
        omega
macro "end_gv " s:term : tactic => `(tactic| (refine ⟨rfl, $s, ?_, ?_⟩ <;> first | (simp [Mt, MtL, Ll.len]; done) | (simp [SrcOK, Al.get_set, GO.so]; done)))
end Go.Rx
