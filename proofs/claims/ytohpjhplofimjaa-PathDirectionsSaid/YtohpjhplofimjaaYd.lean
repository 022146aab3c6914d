/-
  A symbolic run: every operation that does not look at memory. No program.
-/
import Derived.Test.YtohpjhplofimjaaYc
set_option linter.unusedSimpArgs false
set_option linter.unusedVariables false
set_option linter.unusedSectionVars false
namespace Go.Rx
open Go
variable {fs : Fs} {ov : Bool} {ν : Nm} {P : Program} {T : Al (SV (stdA fs ov))} {L : Tr LV}

theorem evGen_int {op : BinOp} {t : TypeId} {xo yo : Operand} {k k' : IntKind} {a b : Int} (h1 : op ≠ .eql) (h2 : op ≠ .neq) :
    evGen P op t xo yo (.i k a) (.i k' b) = match ofSem P (binOp op t (.int k a) (.int k' b)) with | some v => ofV v | none => none := by
  have hg : ofSem P (eqGuard op t xo yo (.int k a) (.int k' b)) = some () := by cases op <;> simp [eqGuard, ofSem_pure] at h1 h2 ⊢
  show (match ofSem P (do eqGuard op t xo yo (.int k a) (.int k' b); binOp op t (.int k a) (.int k' b)) with | some v => ofV v | none => none) = _
  rw [ofSem_bind, hg]
theorem sInt_ok {op : BinOp} {t : TypeId} {xo yo : Operand} {k : IntKind} {a b : Int} {K : SV (stdA fs ov) → Prop} (h : sInt (A := stdA fs ov) op k a b K) :
    ∃ v lv, evInts P op t xo yo k k a b = some lv ∧ VS ν v lv ∧ K v := by
  have e : evInts P op t xo yo k k a b = match evInt op k a b with | some v => some v | none => evGen P op t xo yo (.i k a) (.i k b) := by unfold evInts; rw [show decide (k = k) = true from by simp]; rfl
  rw [e]
  have bits : ∀ op' : BinOp, op' ≠ .eql → op' ≠ .neq → ∀ n, binOp op' t (.int k a) (.int k b) = (pure (.int k n) : Sem Value) → (match ofSem P (binOp op' t (.int k a) (.int k b)) with | some v => ofV v | none => none) = some (.i k n) := fun op' _ _ n hn => by
    rw [hn]; simp [ofSem_pure, ofV, ofC, nI_eq]
  cases op <;> simp only [sInt] at h
  case add =>
    simp only [evInt, mkInt_eq]
    cases ov
    · exact ⟨.i k _, _, rfl, rfl, h⟩
    · obtain ⟨h1, h2⟩ := h; rw [h1.wrap]; exact ⟨.i k _, _, rfl, rfl, h2⟩
  case sub =>
    simp only [evInt, mkInt_eq]
    cases ov
    · exact ⟨.i k _, _, rfl, rfl, h⟩
    · obtain ⟨h1, h2⟩ := h; rw [h1.wrap]; exact ⟨.i k _, _, rfl, rfl, h2⟩
  case mul =>
    simp only [evInt, mkInt_eq]
    cases ov
    · exact ⟨.i k _, _, rfl, rfl, h⟩
    · obtain ⟨h1, h2⟩ := h; rw [h1.wrap]; exact ⟨.i k _, _, rfl, rfl, h2⟩
  case quo =>
    simp only [evInt]
    rw [evGen_int (by simp) (by simp)]
    have hb : b ≠ 0 := by cases ov <;> exact h.1
    rw [bits .quo (by simp) (by simp) (k.wrap (a.tdiv b)) (by simp [binOp, Op.intDiv, hb])]
    cases ov
    · exact ⟨.i k _, _, rfl, rfl, h.2⟩
    · obtain ⟨_, h1, h2⟩ := h; rw [h1.wrap]; exact ⟨.i k _, _, rfl, rfl, h2⟩
  case rem =>
    simp only [evInt]
    rw [evGen_int (by simp) (by simp)]
    obtain ⟨hb, h2⟩ := h
    rw [bits .rem (by simp) (by simp) (a.tmod b) (by simp [binOp, Op.intDiv, hb])]
    exact ⟨.i k _, _, rfl, rfl, h2⟩
  case and =>
    simp only [evInt]
    rw [evGen_int (by simp) (by simp), bits .and (by simp) (by simp) (bitsI .and k a b) (by simp [binOp, Op.intBits, bitsI])]
    exact ⟨.i k _, _, rfl, rfl, h⟩
  case or =>
    simp only [evInt]
    rw [evGen_int (by simp) (by simp), bits .or (by simp) (by simp) (bitsI .or k a b) (by simp [binOp, Op.intBits, bitsI])]
    exact ⟨.i k _, _, rfl, rfl, h⟩
  case xor =>
    simp only [evInt]
    rw [evGen_int (by simp) (by simp), bits .xor (by simp) (by simp) (bitsI .xor k a b) (by simp [binOp, Op.intBits, bitsI])]
    exact ⟨.i k _, _, rfl, rfl, h⟩
  case andNot =>
    simp only [evInt]
    rw [evGen_int (by simp) (by simp), bits .andNot (by simp) (by simp) (bitsI .andNot k a b) (by simp [binOp, Op.intBits, bitsI])]
    exact ⟨.i k _, _, rfl, rfl, h⟩
  case neq =>
    refine ⟨.b _, .b (a != b), by simp only [evInt, tf_eq], ?_, h⟩
    show LV.b (a != b) = LV.b (decide (a ≠ b))
    by_cases e : a = b <;> simp [e]
  all_goals first
    | exact h.elim
    | exact ⟨.b _, _, by simp only [evInt, tf_eq]; rfl, rfl, h⟩
theorem sEq_ok {neg : Bool} {x : Option Bool} {K : SV (stdA fs ov) → Prop} (h : sEq (A := stdA fs ov) neg x K) : ∃ u, x = some u ∧ K (.b (if neg then !u else u)) := by
  cases x with
  | none => exact h.elim
  | some u => refine ⟨u, rfl, ?_⟩; cases neg <;> exact h
theorem evGen_scal {neg : Bool} {t : TypeId} {xo yo : Operand} {lx ly : LV} {a b : Value} {u : Bool} (h1 : toV lx = some a) (h2 : toV ly = some b) (hg : ∀ op, ofSem P (eqGuard op t xo yo a b) = some ())
    (hb : ∀ op, op = .eql ∨ op = .neq → binOp op t a b = (do let r ← Op.equal t a b; pure (.bool (if op = .neq then !r else r)) : Sem Value)) (he : ofSem P (Op.equal t a b) = some u) (op : BinOp) (ho : op = .eql ∧ neg = false ∨ op = .neq ∧ neg = true) :
    evGen P op t xo yo lx ly = some (.b (if neg then !u else u)) := by
  unfold evGen
  simp only [h1, h2]
  rw [ofSem_bind, hg]
  simp only
  rw [hb op (by rcases ho with ⟨h, _⟩ | ⟨h, _⟩ <;> simp [h]), ofSem_bind, he]
  rcases ho with ⟨rfl, rfl⟩ | ⟨rfl, rfl⟩ <;> simp [ofSem_pure, ofV, ofC]
theorem sBin_ok {op : BinOp} {t : TypeId} {xo yo : Operand} {x y : SV (stdA fs ov)} {lx ly : LV} {K : SV (stdA fs ov) → Prop} (h : sBin P op t x y K) (hx : VS ν x lx) (hy : VS ν y ly) :
    ∃ v lv, evBin P op t xo yo lx ly = some lv ∧ VS ν v lv ∧ K v := by
  unfold sBin at h
  split at h
  · rename_i k a k' b
    obtain ⟨h0, h⟩ := h
    have h0 : (0 : Int) ≤ b := h0
    obtain rfl := hx; obtain rfl := hy
    have e : evBin P .shl t xo yo (.i k a) (.i k' b) = evGen P .shl t xo yo (.i k a) (.i k' b) := by
      simp only [evBin, evInts, evInt]; cases decide (k = k') <;> rfl
    have : ¬ @LT.lt Int _ b 0 := Int.not_lt.2 h0
    rw [e, evGen_int (by simp) (by simp)]
    refine ⟨.i k _, .i k (shI .shl k a b), ?_, rfl, h⟩
    simp [binOp, Op.shift, this, ofSem_pure, ofV, ofC, nI_eq, shI]
  · rename_i k a k' b
    obtain ⟨h0, h⟩ := h
    have h0 : (0 : Int) ≤ b := h0
    obtain rfl := hx; obtain rfl := hy
    have e : evBin P .shr t xo yo (.i k a) (.i k' b) = evGen P .shr t xo yo (.i k a) (.i k' b) := by
      simp only [evBin, evInts, evInt]; cases decide (k = k') <;> rfl
    have : ¬ @LT.lt Int _ b 0 := Int.not_lt.2 h0
    rw [e, evGen_int (by simp) (by simp)]
    refine ⟨.i k _, .i k (shI .shr k a b), ?_, rfl, h⟩
    simp [binOp, Op.shift, this, ofSem_pure, ofV, ofC, nI_eq, shI]
  · rename_i op k a k' b _ _
    cases hk : decide (k = k')
    · simp only [hk, cond_false] at h <;> exact h.elim
    · simp only [hk, cond_true] at h
      obtain rfl : k = k' := by simpa using hk
      obtain rfl := hx; obtain rfl := hy
      exact sInt_ok h
  · rename_i x y
    obtain ⟨u, hu, hK⟩ := sEq_ok h
    obtain ⟨_, a, b, h1, h2, h3⟩ := eqAt_ok hu hx hy
    obtain rfl := hx; obtain rfl := hy
    cases h1; cases h2
    refine ⟨.b _, .b _, ?_, rfl, hK⟩
    exact evGen_scal (neg := false) (lx := .b x) (ly := .b y) rfl rfl (fun op => by cases op <;> simp [eqGuard, ofSem_pure]) (fun op ho => by rcases ho with rfl | rfl <;> simp [binOp]) (h3 9999) .eql (.inl ⟨rfl, rfl⟩)
  · rename_i x y
    obtain ⟨u, hu, hK⟩ := sEq_ok h
    obtain ⟨_, a, b, h1, h2, h3⟩ := eqAt_ok hu hx hy
    obtain rfl := hx; obtain rfl := hy
    cases h1; cases h2
    refine ⟨.b _, .b _, ?_, rfl, hK⟩
    exact evGen_scal (neg := true) (lx := .b x) (ly := .b y) rfl rfl (fun op => by cases op <;> simp [eqGuard, ofSem_pure]) (fun op ho => by rcases ho with rfl | rfl <;> simp [binOp]) (h3 9999) .neq (.inr ⟨rfl, rfl⟩)
  · rename_i l r
    obtain ⟨u, hu, hK⟩ := sEq_ok h
    obtain ⟨ll, rfl, hl⟩ := hx
    obtain ⟨lr, rfl, hr⟩ := hy
    obtain ⟨xs, ys, h1, h2, _, h4⟩ := eqAgg_ok hu hl hr .eql xo yo
    refine ⟨.b _, .b _, ?_, rfl, hK⟩
    exact evGen_scal (neg := false) (by simp [toV, h1]) (by simp [toV, h2]) (fun op => (eqAgg_ok hu hl hr op xo yo).elim fun xs' ⟨ys', e1, e2, e3, _⟩ => by rw [h1] at e1; rw [h2] at e2; cases e1; cases e2; exact e3) (fun op ho => by rcases ho with rfl | rfl <;> simp [binOp]) h4 .eql (.inl ⟨rfl, rfl⟩)
  · rename_i l r
    obtain ⟨u, hu, hK⟩ := sEq_ok h
    obtain ⟨ll, rfl, hl⟩ := hx
    obtain ⟨lr, rfl, hr⟩ := hy
    obtain ⟨xs, ys, h1, h2, _, h4⟩ := eqAgg_ok hu hl hr .neq xo yo
    refine ⟨.b _, .b _, ?_, rfl, hK⟩
    exact evGen_scal (neg := true) (by simp [toV, h1]) (by simp [toV, h2]) (fun op => (eqAgg_ok hu hl hr op xo yo).elim fun xs' ⟨ys', e1, e2, e3, _⟩ => by rw [h1] at e1; rw [h2] at e2; cases e1; cases e2; exact e3) (fun op ho => by rcases ho with rfl | rfl <;> simp [binOp]) h4 .neq (.inr ⟨rfl, rfl⟩)
  · exact h.elim
theorem sUn_ok {op : UnOp} {x : SV (stdA fs ov)} {lx : LV} {K : SV (stdA fs ov) → Prop} (h : sUn op x K) (hx : VS ν x lx) :
    ∃ v lv, (match toV lx with | some a => (match ofSem P (Op.unary op a) with | some v => ofV v | none => none) | none => none) = some lv ∧ VS ν v lv ∧ K v := by
  unfold sUn at h
  split at h
  · obtain rfl := hx
    exact ⟨.b _, .b _, rfl, rfl, h⟩
  · rename_i k n
    obtain rfl := hx
    have e : (match toV (.i k n) with | some a => (match ofSem P (Op.unary .neg a) with | some v => ofV v | none => none) | none => none) = some (.i k (k.wrap (0 - n))) := by
      show ofV (.int k (k.wrap (0 - n))) = _
      simp [ofV, ofC, nI_eq]
    rw [e]
    cases ov
    · exact ⟨.i k _, _, rfl, rfl, h⟩
    · obtain ⟨h1, h2⟩ := h; rw [h1.wrap]; exact ⟨.i k _, _, rfl, rfl, h2⟩
  · rename_i k n
    obtain rfl := hx
    have e : (match toV (.i k n) with | some a => (match ofSem P (Op.unary .xor a) with | some v => ofV v | none => none) | none => none) = some (.i k (notI k n)) := by
      show ofV (.int k (notI k n)) = _
      simp [ofV, ofC, nI_eq]
    rw [e]
    exact ⟨.i k _, _, rfl, rfl, h⟩
  · exact h.elim
theorem sConv_ok {s d : TypeId} {x : SV (stdA fs ov)} {lx : LV} {K : SV (stdA fs ov) → Prop} (h : sConv P s d x K) (hx : VS ν x lx) :
    ∃ v lv, (match toV lx with | some a => (match ofSem P (convert s d a) with | some v => ofV v | none => none) | none => none) = some lv ∧ VS ν v lv ∧ K v := by
  unfold sConv at h
  split at h
  · rename_i k0 k k1 n hs hd
    obtain rfl := hx
    have e : ofSem P (convert s d (.int k1 n)) = some (.int k (k.wrap n)) := by
      unfold convert
      rw [ofSem_bind, ofSem_under hs]
      simp only
      rw [ofSem_bind, ofSem_under hd]
      rfl
    have e' : (match toV (.i k1 n) with | some a => (match ofSem P (convert s d a) with | some v => ofV v | none => none) | none => none) = some (.i k (k.wrap n)) := by
      show (match ofSem P (convert s d (.int k1 n)) with | some v => ofV v | none => none) = _
      rw [e]; simp [ofV, ofC, nI_eq]
    rw [e']
    cases ov
    · exact ⟨.i k _, _, rfl, rfl, h⟩
    · obtain ⟨h1, h2⟩ := h; rw [h1.wrap]; exact ⟨.i k _, _, rfl, rfl, h2⟩
  · exact h.elim

/-! ### Indices, addresses, fields -/
theorem fan_ok {n : Int} {K : Nat → Prop} : ∀ {m j : Nat}, fan (A := stdA fs ov) n K m j → (j : Int) ≤ n → n < j + m → K n.toNat
  | 0, _, h, _, _ => h.elim
  | 1, j, h, h1, h2 => by
    have : n.toNat = j := by omega
    rw [this]; exact h
  | m + 2, j, h, h1, h2 => by
    have h' : cond (decide (n = (j : Int))) (K j) (fan (A := stdA fs ov) n K (m + 1) (j + 1)) := h
    by_cases e : n = (j : Int)
    · rw [decide_eq_true e] at h'
      have : n.toNat = j := by omega
      rw [this]; exact h'
    · rw [decide_eq_false e] at h'
      exact fan_ok h' (by omega) (by omega)
theorem idx_int {k : IntKind} {n : Int} {len : Nat} (h0 : 0 ≤ n) (h1 : n < len) : idx (.i k n) len = some n.toNat := by
  obtain ⟨m, rfl⟩ := Int.eq_ofNat_of_zero_le h0
  have : Nat.blt m len = true := by simp; omega
  simp [idx, this]
theorem sIdx_ok {v : SV (stdA fs ov)} {lv : LV} {len : Nat} {K : Nat → Prop} (h : sIdx v len K) (hv : VS ν v lv) : ∃ n, idx lv len = some n ∧ K n := by
  unfold sIdx at h
  split at h
  · rename_i k n
    obtain rfl := hv
    obtain ⟨h0, h1, h2⟩ := h
    exact ⟨_, idx_int h0 h1, fan_ok h2 h0 (by have : @LT.lt Int _ n (len : Int) := h1; simpa using this)⟩
  · exact h.elim
theorem addr_some {id off n z : Nat} : addr id off (some n) (some z) = some (.p id (off + n * z)) := by simp [addr, nN_eq]
theorem sIAddr_ok {t : TypeId} {x ix : SV (stdA fs ov)} {xo io : Operand} {lx li : LV} {K : SV (stdA fs ov) → Prop} (h : sIAddr P t x ix K) (hx : VS ν x lx) (hi : VS ν ix li) (ex : evO L xo = some lx) (ei : evO L io = some li) :
    ∃ v lv, evIAddr P L t xo io = some lv ∧ VS ν v lv ∧ K v := by
  unfold sIAddr at h
  unfold evIAddr
  simp only [ex, ei]
  split at h
  · rename_i ix e id off len c hu
    obtain ⟨r, hr, rfl⟩ := hx
    cases hs : szOf P e with
    | none => simp only [hs] at h <;> exact h.elim
    | some z =>
      simp only [hs] at h
      obtain ⟨n, h1, h2⟩ := sIdx_ok h hi
      simp only [hu, h1, hs, addr_some]
      exact ⟨.p id (off + n * z), .p r (off + n * z), rfl, ⟨r, hr, rfl⟩, h2⟩
  · rename_i e own id n k i hu
    cases hs : szOf P e with
    | none => simp only [hs] at h <;> exact h.elim
    | some z =>
      simp only [hs] at h
      obtain ⟨h0, h1, h2⟩ := h
      have h0 : @LE.le Int _ 0 i := h0
      have h1 : @LT.lt Int _ i n := h1
      obtain rfl := hi
      obtain ⟨hn, ⟨rfl, h3⟩ | ⟨r, o, hr, ⟨rfl, rfl⟩ | ⟨_, c, hc, rfl⟩⟩⟩ := hx
      · have h3 : @Eq Int n 0 := h3
        omega
      · simp only [hu, idx_int h0 (show @LT.lt Int _ i ((Int.toNat n : Nat) : Int) by omega), hs, addr_some]
        exact ⟨.pe id z i 0, .p r (0 + Int.toNat i * z), rfl, ⟨r, 0, hr, h0, by simp⟩, h2⟩
      · simp only [hu, idx_int h0 (show @LT.lt Int _ i ((Int.toNat n : Nat) : Int) by omega), hs, addr_some]
        exact ⟨.pe id z i 0, .p r (o + Int.toNat i * z), rfl, ⟨r, o, hr, h0, by simp⟩, h2⟩
  · rename_i ix n e id off hu
    obtain ⟨r, hr, rfl⟩ := hx
    cases hs : szOf P e with
    | none => simp only [hs] at h <;> exact h.elim
    | some z =>
      simp only [hs] at h
      obtain ⟨m, h1, h2⟩ := sIdx_ok h hi
      simp only [hu, h1, hs, addr_some]
      exact ⟨.p id (off + m * z), .p r (off + m * z), rfl, ⟨r, hr, rfl⟩, h2⟩
  · exact h.elim
theorem sFAddr_ok {t : TypeId} {x v : SV (stdA fs ov)} {xo : Operand} {lx : LV} {f : Nat} (h : sFAddr P t x f = some v) (hx : VS ν x lx) (ex : evO L xo = some lx) : ∃ lv, evFAddr P L t xo f = some lv ∧ VS ν v lv := by
  unfold sFAddr at h
  unfold evFAddr
  simp only [ex]
  split at h
  · rename_i id off f' hf
    obtain ⟨r, hr, rfl⟩ := hx
    split at h
    · rename_i z hz
      simp at h; subst h
      simp only [hf, hz, nN_eq]
      exact ⟨_, rfl, r, hr, rfl⟩
    · cases h
  · rename_i id z i j f' hf
    obtain ⟨r, o, hr, h0, rfl⟩ := hx
    split at h
    · rename_i z' hz
      simp at h; subst h
      simp only [hf, hz, nN_eq]
      exact ⟨_, rfl, r, o, hr, h0, by rw [Nat.add_assoc]⟩
    · cases h
  · cases h
theorem sField_ok {t : TypeId} {x v : SV (stdA fs ov)} {xo : Operand} {lx : LV} {f : Nat} (h : sField P t x f = some v) (hx : VS ν x lx) (ex : evO L xo = some lx) : ∃ lv, evField P L t xo f = some lv ∧ VS ν v lv := by
  unfold sField at h
  unfold evField
  simp only [ex]
  split at h
  · rename_i cs
    obtain ⟨l', rfl, hl⟩ := hx
    cases hf : fieldOf P t f with
    | none => simp [hf] at h
    | some f' => simp only [hf] at h ⊢; exact sPrt_ok h hl
  · cases h
theorem sIndexA_ok {t : TypeId} {x ix : SV (stdA fs ov)} {xo io : Operand} {lx li : LV} {K : SV (stdA fs ov) → Prop} (h : sIndexA P t x ix K) (hx : VS ν x lx) (hi : VS ν ix li) (ex : evO L xo = some lx) (ei : evO L io = some li) :
    ∃ v lv, evIndex P L t xo io = some lv ∧ VS ν v lv ∧ K v := by
  unfold sIndexA at h
  unfold evIndex
  split at h
  · rename_i n e cs hu
    obtain ⟨l', rfl, hl⟩ := hx
    cases hs : szOf P e with
    | none => simp only [hs] at h <;> exact h.elim
    | some z =>
      simp only [hs] at h
      obtain ⟨m, h1, h2⟩ := sIdx_ok h hi
      obtain ⟨v, h3, h4⟩ := opt_ok h2
      obtain ⟨lv, h5, h6⟩ := sPrt_ok h3 hl
      simp only [hu, evIdxA, ex, ei, h1, hs]
      exact ⟨v, lv, h5, h6, h4⟩
  · exact h.elim
theorem bnds_none {len cap : Nat} : bnds L len cap none none none = some (0, len, cap) := rfl
theorem sSlice_ok {t : TypeId} {x v : SV (stdA fs ov)} {lo hi mx : Option Operand} {lx : LV} (h : sSlice P t x lo hi mx = some v) (hx : VS ν x lx) : ∃ lv, evSlice P L t lx lo hi mx = some lv ∧ VS ν v lv := by
  unfold sSlice at h
  unfold evSlice
  split at h
  · rename_i n e id off hu
    obtain ⟨r, hr, rfl⟩ := hx
    cases hs : szOf P e with
    | none => simp [hs] at h
    | some z =>
      simp only [hs] at h
      cases hb : Nat.beq n 0
      · simp [hb] at h; subst h
        simp [hu, hs, bnds_none, nN_eq, hb]
        exact ⟨r, hr, rfl⟩
      · simp [hb] at h
  · rename_i e own id n hu
    cases hs : szOf P e with
    | none => simp [hs] at h
    | some z =>
      simp [hs] at h; subst h
      have hx' := hx
      obtain ⟨hn, ⟨rfl, h3⟩ | ⟨r, o, hr, ⟨rfl, rfl⟩ | ⟨_, c, hc, rfl⟩⟩⟩ := hx'
      · exact ⟨.nils, by simp [hu, hs, bnds_none], hx⟩
      · exact ⟨.gs r 0 0 n.toNat, by simp [hu, hs, bnds_none, nN_eq], hx⟩
      · have hle : Nat.ble n.toNat c = true := by simpa using hc
        refine ⟨.sl r o n.toNat c, ?_, hx⟩
        cases hb : Nat.beq c 0
        · simp [hu, hs, bnds_none, nN_eq, hle, hb]
        · have : c = 0 := (beq_iff _ _).1 hb
          subst this
          simp [hu, hs, bnds_none, nN_eq, hle]
  · rename_i e id off len cap hu
    obtain ⟨r, hr, rfl⟩ := hx
    cases hs : szOf P e with
    | none => simp [hs] at h
    | some z =>
      simp only [hs] at h
      cases hb : Nat.ble (len + 1) cap
      · simp [hb] at h
      · simp [hb] at h; subst h
        have hc : Nat.beq cap 0 = false := (beq_false _ _).2 (fun e => by subst e; simp at hb)
        refine ⟨.sl r off (len + 1) cap, ?_, r, hr, rfl⟩
        simp [hu, hs, bnds_none, nN_eq, hb, hc]
  · cases h
theorem sPure_ok (hF : FS ν T L) {op : Op} {K : SV (stdA fs ov) → Prop} (h : sPure P T op K) : ∃ v lv, evPure P L op = some lv ∧ VS ν v lv ∧ K v := by
  cases op <;> simp only [sPure] at h <;> try exact h.elim
  case move x =>
    obtain ⟨v, h1, h2⟩ := opt_ok h
    obtain ⟨lv, h3, h4⟩ := sO_ok hF h1
    exact ⟨v, lv, h3, h4, h2⟩
  case assign x =>
    obtain ⟨v, h1, h2⟩ := opt_ok h
    obtain ⟨lv, h3, h4⟩ := sO_ok hF h1
    exact ⟨v, lv, h3, h4, h2⟩
  case pick c x y =>
    simp only [sPick] at h
    split at h
    · rename_i b hc
      obtain ⟨lc, h1, h2⟩ := sO_ok hF hc
      obtain rfl := h2
      have h' : cond b (opt (sO T x) "pick" K) (opt (sO T y) "pick" K) := h
      cases b
      · obtain ⟨v, h3, h4⟩ := opt_ok h'
        obtain ⟨lv, h5, h6⟩ := sO_ok hF h3
        exact ⟨v, lv, by simp [evPure, evPick, h1, h5], h6, h4⟩
      · obtain ⟨v, h3, h4⟩ := opt_ok h'
        obtain ⟨lv, h5, h6⟩ := sO_ok hF h3
        exact ⟨v, lv, by simp [evPure, evPick, h1, h5], h6, h4⟩
    · exact h.elim
  case build t ps =>
    obtain ⟨v, h1, h2⟩ := opt_ok h
    split at h1
    · rename_i z l hz hl
      obtain ⟨lz, h3, h4⟩ := sZero_ok (ν := ν) hz
      obtain ⟨ll, h5, h6⟩ := sPartsO_ok hF hl
      cases hb : sBuildAt P t z.cells l with
      | none => simp [hb] at h1
      | some cs =>
        simp [hb] at h1; subst h1
        obtain ⟨lr, h7, h8⟩ := sBuildAt_ok hb h4.cells h6
        exact ⟨.agg cs, .agg lr, by simp [evPure, evBuild, h3, h5, h7], ⟨lr, rfl, h8⟩, h2⟩
    · cases h1
  case nilCheck x =>
    obtain ⟨v, h1, h2⟩ := opt_ok h
    cases hx : sO T x with
    | none => simp [hx] at h1
    | some u =>
      simp only [hx] at h1
      obtain ⟨lu, h3, h4⟩ := sO_ok hF hx
      unfold sNil at h1
      split at h1
      · simp at h1; subst h1
        obtain ⟨r, hr, rfl⟩ := h4
        exact ⟨.p _ _, .p r _, by simp [evPure, evNil, h3], ⟨r, hr, rfl⟩, h2⟩
      · simp at h1; subst h1
        obtain ⟨r, o, hr, h0, rfl⟩ := h4
        exact ⟨.pe _ _ _ _, .p r _, by simp [evPure, evNil, h3], ⟨r, o, hr, h0, rfl⟩, h2⟩
      · simp at h1; subst h1
        obtain ⟨a, c, rfl, ha, hc⟩ := h4
        exact ⟨.fn _ _ _, .fn _ a c, by simp [evPure, evNil, h3], ⟨a, c, rfl, ha, hc⟩, h2⟩
      · cases h1
  case binOp op t x y yt =>
    unfold o2 at h
    split at h
    · rename_i a b ha hb
      obtain ⟨la, h1, h2⟩ := sO_ok hF ha
      obtain ⟨lb, h3, h4⟩ := sO_ok hF hb
      obtain ⟨v, lv, h5, h6, h7⟩ := sBin_ok (xo := x) (yo := y) h h2 h4
      exact ⟨v, lv, by simp [evPure, evBinO, h1, h3, h5], h6, h7⟩
    · exact h.elim
  case unOp op t x =>
    split at h
    · rename_i a ha
      obtain ⟨la, h1, h2⟩ := sO_ok hF ha
      obtain ⟨v, lv, h3, h4, h5⟩ := sUn_ok (P := P) h h2
      exact ⟨v, lv, by simp only [evPure, evUn, h1]; exact h3, h4, h5⟩
    · exact h.elim
  case convert s d x =>
    split at h
    · rename_i a ha
      obtain ⟨la, h1, h2⟩ := sO_ok hF ha
      obtain ⟨v, lv, h3, h4, h5⟩ := sConv_ok (P := P) h h2
      exact ⟨v, lv, by simp only [evPure, evConv, h1]; exact h3, h4, h5⟩
    · exact h.elim
  case makeFunc f x c =>
    cases f <;> simp only at h <;> try exact h.elim
    split at h
    · rename_i f a b ha hb
      obtain ⟨la, h1, h2⟩ := sOs_ok hF ha
      obtain ⟨lb, h3, h4⟩ := sOs_ok hF hb
      exact ⟨.fn _ _ _, .fn _ la lb, by simp [evPure, evMkFn, h1, h3], ⟨la, lb, rfl, h2, h4⟩, h⟩
    · exact h.elim
  case slice t x lo hi mx =>
    obtain ⟨v, h1, h2⟩ := opt_ok h
    cases hx : sO T x with
    | none => simp [hx] at h1
    | some u =>
      simp only [hx] at h1
      obtain ⟨lu, h3, h4⟩ := sO_ok hF hx
      obtain ⟨lv, h5, h6⟩ := sSlice_ok (L := L) h1 h4
      exact ⟨v, lv, by simp [evPure, evSliceO, h3, h5], h6, h2⟩
  case fieldAddr t x f =>
    obtain ⟨v, h1, h2⟩ := opt_ok h
    cases hx : sO T x with
    | none => simp [hx] at h1
    | some u =>
      simp only [hx] at h1
      obtain ⟨lu, h3, h4⟩ := sO_ok hF hx
      obtain ⟨lv, h5, h6⟩ := sFAddr_ok h1 h4 h3
      exact ⟨v, lv, h5, h6, h2⟩
  case field t x f =>
    obtain ⟨v, h1, h2⟩ := opt_ok h
    cases hx : sO T x with
    | none => simp [hx] at h1
    | some u =>
      simp only [hx] at h1
      obtain ⟨lu, h3, h4⟩ := sO_ok hF hx
      obtain ⟨lv, h5, h6⟩ := sField_ok h1 h4 h3
      exact ⟨v, lv, h5, h6, h2⟩
  case indexAddr t x ix =>
    unfold o2 at h
    split at h
    · rename_i a b ha hb
      obtain ⟨la, h1, h2⟩ := sO_ok hF ha
      obtain ⟨lb, h3, h4⟩ := sO_ok hF hb
      exact sIAddr_ok h h2 h4 h1 h3
    · exact h.elim
  case index t x ix =>
    unfold o2 at h
    split at h
    · rename_i a b ha hb
      obtain ⟨la, h1, h2⟩ := sO_ok hF ha
      obtain ⟨lb, h3, h4⟩ := sO_ok hF hb
      exact sIndexA_ok h h2 h4 h1 h3
    · exact h.elim
  case extract x k =>
    obtain ⟨v, h1, h2⟩ := opt_ok h
    split at h1
    · rename_i l hx
      obtain ⟨lu, h3, h4⟩ := sO_ok hF hx
      obtain ⟨l', rfl, hl⟩ := h4
      obtain ⟨lv, h5, h6⟩ := hl.get h1
      exact ⟨v, lv, by simp [evPure, evExtract, h3, at_eq, h5], h6, h2⟩
    · cases h1
end Go.Rx
