/- A region that draws its order, whose first operations only read and whose last ones write: one walk of the first, in the order of the text, then the last. No claim of its own. -/
import Derived.Test.YtedmmpognhpbdaaRows
import Derived.WalkKit
import Derived.Deep.QuietTactic
namespace Go.Proofs.Ytedmmpognhpbdaa
open Go.RowKit
set_option maxRecDepth 20000

/-- does operation k wait for operation j -/
def waits (md : Region.Mode) (ops : Array Oper) (k j : Nat) : Bool := match ops[k]? with
  | some o => o.after.any fun e => Region.binds md e && e.on == j
  | none => false
/-- the operations from k to m only wait for earlier ones, have no guard, and operation m waits for them all; those behind m wait for m -/
def thenB (md : Region.Mode) (ops : Array Oper) (k m n : Nat) : Bool :=
  (ops.size == m + n) && Region.noSelect (ops.extract 0 m) && Region.lexFrom md (ops.extract 0 m) (m - k) k (Array.replicate k true ++ Array.replicate (m - k) false)
  && (List.range m).all (fun i => match ops[i]? with | some o => o.guard.isNone && o.after.all (fun e => !Region.binds md e || decide (e.on < i)) | none => false)
  && (List.range m).all (fun j => decide (j < k) || (List.range (m + 1)).any (fun i => decide (j < i) && waits md ops i j))
  && (List.range (m + n)).all (fun i => decide (i ≤ m) || waits md ops i m) && decide (k ≤ m)

theorem waits_spec {md : Region.Mode} {ops : Array Oper} {k j : Nat} (h : waits md ops k j = true) : ∃ o, ops[k]? = some o ∧ ∃ e ∈ o.after, Region.binds md e = true ∧ e.on = j := by
  unfold waits at h
  cases ho : ops[k]? with
  | none => simp [ho] at h
  | some o =>
    simp only [ho] at h
    obtain ⟨e, he, h2⟩ := Array.any_eq_true'.1 h
    simp only [Bool.and_eq_true, beq_iff_eq] at h2
    exact ⟨o, rfl, e, he, h2.1, h2.2⟩

section
variable {P : Program} {ops : Array Oper} {md : Region.Mode} {C : World → Prop} {Q : Exit → Act → World → Prop}

theorem getD_lo {L : Array Bool} {n j : Nat} (b : Bool) (hj : j < L.size) : (L ++ Array.replicate n false).getD j b = L.getD j b := by
  simp [Array.getElem?_append, hj]
theorem getD_hi {L : Array Bool} {n j : Nat} (b : Bool) (hj : L.size ≤ j) (hn : j < L.size + n) : (L ++ Array.replicate n false).getD j b = false := by
  simp [Array.getElem?_append, Nat.not_lt.2 hj, show j - L.size < n by omega]
theorem getD_any {L : Array Bool} {j : Nat} (b c : Bool) (hj : j < L.size) : L.getD j b = L.getD j c := by simp [hj]
theorem all_true {L : Array Bool} {m : Nat} (hs : L.size = m) (h : ∀ j, j < m → L.getD j true = true) : L = Array.replicate m true := by
  apply Array.ext
  · simp [hs]
  · intro i h1 h2
    have := h i (by omega)
    simpa [h1] using this
theorem set_lo {L : Array Bool} {n i : Nat} (hi : i < L.size) : (L ++ Array.replicate n false).setIfInBounds i true = L.setIfInBounds i true ++ Array.replicate n false := by
  apply Array.ext_getElem?
  intro j
  rw [Array.getElem?_setIfInBounds, Array.getElem?_append, Array.getElem?_append, Array.getElem?_setIfInBounds, Array.size_setIfInBounds, Array.size_append]
  by_cases e : i = j
  · subst e; simp [hi]
    omega
  · simp [e]

theorem wpAny_pre {m n k : Nat} (hsz : ops.size = m + n)
    (hpre : ∀ i, i < m → ∃ o, ops[i]? = some o ∧ o.guard = none ∧ ∀ e ∈ o.after, Region.binds md e = true → e.on < i)
    (hall : ∀ j, k ≤ j → j < m → ∃ i, j < i ∧ i ≤ m ∧ waits md ops i j = true)
    (hbeh : ∀ i, m < i → i < m + n → waits md ops i m = true) (Q' : Act → Prop)
    (hQ : ∀ a, Q' a → ∀ f w, C w → wpAny P md ops Q (f + n) (Array.replicate m true ++ Array.replicate n false) a w) :
    ∀ (fuel : Nat) (L : Array Bool) (a : Act) (w : World), L.size = m → (∀ j, j < k → j < m → L.getD j true = true) →
      (∀ i o, i < m → ops[i]? = some o → L.getD i true = true → ∀ e ∈ o.after, Region.binds md e = true → L.getD e.on false = true) →
      C w → wpAnyQ P md (ops.extract 0 m) C Q' fuel L a → wpAny P md ops Q (fuel + n) (L ++ Array.replicate n false) a w := by
  have hex : ∀ i, i < m → (ops.extract 0 m)[i]? = ops[i]? := fun i hi => by
    rw [Array.getElem?_extract]; simp
    intro h; omega
  have hpr : ∀ (L : Array Bool) (i : Nat), L.size = m → i < m → (i ∈ Region.ready md (ops.extract 0 m) L ↔ i ∈ Region.ready md ops (L ++ Array.replicate n false)) := by
    intro L i hs hi
    obtain ⟨o, ho, hg, hd⟩ := hpre i hi
    rw [mem_ready, mem_ready, hex i hi, ho, getD_lo _ (by omega)]
    constructor
    · rintro ⟨h1, o', e', h2⟩
      cases e'
      exact ⟨h1, o, rfl, fun e he hb => by rw [getD_lo _ (by have := hd e he hb; omega)]; exact h2 e he hb⟩
    · rintro ⟨h1, o', e', h2⟩
      cases e'
      refine ⟨h1, o, rfl, fun e he hb => ?_⟩
      have := h2 e he hb
      rwa [getD_lo _ (by have := hd e he hb; omega)] at this
  -- an operation that may come up while one of the first has not yet come up is one of the first
  have hlow : ∀ (L : Array Bool) (i : Nat), L.size = m → (∀ j, j < k → j < m → L.getD j true = true) → (∀ i o, i < m → ops[i]? = some o → L.getD i true = true → ∀ e ∈ o.after, Region.binds md e = true → L.getD e.on false = true) →
      (∃ j, j < m ∧ L.getD j true = false) → i ∈ Region.ready md ops (L ++ Array.replicate n false) → i < m := by
    intro L i hs hk hcl ⟨j, hj, hjf⟩ hi
    rcases Nat.lt_or_ge i m with h | h
    · exact h
    exfalso
    obtain ⟨hun, o, ho, hd⟩ := mem_ready.1 hi
    have hio : i < m + n := by rw [← hsz]; exact (Array.getElem?_eq_some_iff.1 ho).1
    have him : i = m := by
      rcases Nat.lt_or_ge m i with h' | h'
      · obtain ⟨o', ho', e, he, hb, hon⟩ := waits_spec (hbeh i h' hio)
        rw [ho] at ho'; cases ho'
        have := hd e he hb
        rw [hon, getD_hi _ (by omega) (by omega)] at this
        cases this
      · omega
    subst him
    have hdown : ∀ d j, i - 1 - d = j → j < i → L.getD j true = true := by
      intro d
      induction d using Nat.strongRecOn with
      | ind d ih =>
        intro j hdj hji
        rcases Nat.lt_or_ge j k with hjk | hjk
        · exact hk j hjk hji
        obtain ⟨c, hc1, hc2, hw⟩ := hall j hjk hji
        obtain ⟨o', ho', e, he, hb, hon⟩ := waits_spec hw
        rcases Nat.lt_or_ge c i with hci | hci
        · have h1 := ih (i - 1 - c) (by omega) c (by omega) hci
          have h2 := hcl c o' hci ho' h1 e he hb
          rw [hon] at h2
          rw [getD_any true false (by omega)]; exact h2
        · have : c = i := by omega
          subst this
          rw [ho] at ho'; cases ho'
          have h2 := hd e he hb
          rw [hon, getD_lo _ (by omega)] at h2
          rw [getD_any true false (by omega)]; exact h2
    have := hdown (i - 1 - j) j (by omega) hj
    rw [this] at hjf; cases hjf
  -- one of the first that has not come up yet: one of them may come up
  have hsome : ∀ (L : Array Bool), L.size = m → (∃ j, j < m ∧ L.getD j true = false) → ∃ i, i < m ∧ i ∈ Region.ready md (ops.extract 0 m) L := by
    intro L hs ⟨j, hj, hjf⟩
    induction j using Nat.strongRecOn with
    | ind j ih =>
      obtain ⟨o, ho, hg, hd⟩ := hpre j hj
      by_cases hq : ∀ e ∈ o.after, Region.binds md e = true → L.getD e.on false = true
      · exact ⟨j, hj, mem_ready.2 ⟨hjf, o, by rw [hex j hj]; exact ho, hq⟩⟩
      · simp only [Classical.not_forall] at hq
        obtain ⟨e, he, hb, hn⟩ := hq
        have hlt := hd e he hb
        refine ih e.on hlt (by omega) ?_
        rw [getD_any true false (by omega)]
        simpa using hn
  intro fuel
  induction fuel with
  | zero =>
    intro L a w hs hk hcl hC h
    have hal : ∀ j, j < m → L.getD j true = true := by
      intro j hj
      cases hv : L.getD j true with
      | true => rfl
      | false =>
        obtain ⟨i, _, hi⟩ := hsome L hs ⟨j, hj, hv⟩
        rw [h.1] at hi; cases hi
    rw [all_true hs hal]
    exact hQ a h.2 0 w hC
  | succ fuel ih =>
    intro L a w hs hk hcl hC h
    by_cases hal : ∀ j, j < m → L.getD j true = true
    · rw [all_true hs hal]
      refine hQ a (h.1 ?_) (fuel + 1) w hC
      apply List.eq_nil_iff_forall_not_mem.2
      intro i hi
      obtain ⟨hun, o, ho, _⟩ := mem_ready.1 hi
      have him : i < m := by
        have := (Array.getElem?_eq_some_iff.1 ho).1
        simp at this; omega
      rw [hal i him] at hun; cases hun
    · have hex2 : ∃ j, j < m ∧ L.getD j true = false := by
        simp only [Classical.not_forall] at hal
        obtain ⟨j, hj, hn⟩ := hal
        exact ⟨j, hj, by simpa using hn⟩
      rw [Nat.add_right_comm]
      refine ⟨fun h0 => ?_, fun i hi => ?_⟩
      · obtain ⟨i, him, hi⟩ := hsome L hs hex2
        rw [hpr L i hs him, h0] at hi; cases hi
      · have him := hlow L i hs hk hcl hex2 hi
        have hip := (hpr L i hs him).2 hi
        have hq := h.2 i hip
        obtain ⟨o, ho, hg, hd⟩ := hpre i him
        obtain ⟨hun, o', ho', hdd⟩ := mem_ready.1 hi
        rw [ho] at ho'; cases ho'
        unfold qOp at hq
        unfold wpOp
        rw [hex i him, ho] at hq
        rw [ho]
        have hw1 : ∀ y, Region.wanted o y = true := fun y => by simp [Region.wanted, hg]
        simp only [hw1, if_true] at hq ⊢
        refine .inl (Oper.wp_of_quiet hC (fun a' w' hw' hK => ?_) hq)
        rw [set_lo (by omega)]
        refine ih _ a' w' (by simpa using hs) (fun j hj hjm => ?_) (fun c oc hc hoc hct e he hb => ?_) hw' hK
        · by_cases hij : i = j
          · subst hij; simp [hs, him]
          · rw [getD_set_ne true hij]; exact hk j hj hjm
        · by_cases hie : i = e.on
          · rw [← hie]; simp [hs, him]
          · rw [getD_set_ne false hie]
            by_cases hic : i = c
            · subst hic
              rw [ho] at hoc; cases hoc
              have := hdd e he hb
              rwa [getD_lo _ (by have := hd e he hb; omega)] at this
            · rw [getD_set_ne true hic] at hct
              exact hcl c oc hc hoc hct e he hb

/-- **the first m operations (the first k of them have come up) by one walk in the order of the text, then the others** -/
theorem wpAny_quiet_then (k m n : Nat) {fuel : Nat} {listed : Array Bool} {a : Act} {w : World} (l : List Oper) (hB : thenB md ops k m n = true) (hl : l = (ops.toList.take m).drop k) (hf : fuel = (m - k) + n)
    (hL : listed = (Array.replicate k true ++ Array.replicate (m - k) false) ++ Array.replicate n false) (hC : C w)
    (h : wpQuiet P (ops.extract 0 m) C (fun a' => ∀ f w', C w' → wpAny P md ops Q (f + n) (Array.replicate m true ++ Array.replicate n false) a' w') l a) : wpAny P md ops Q fuel listed a w := by
  simp only [thenB, Bool.and_eq_true, beq_iff_eq, decide_eq_true_eq] at hB
  obtain ⟨⟨⟨⟨⟨⟨hsz, hns⟩, hlex⟩, hpre⟩, hall⟩, hbeh⟩, hkm⟩ := hB
  subst hf hL
  have hll : l.length = m - k := by rw [hl]; simp; omega
  refine wpAny_pre (k := k) hsz (fun i hi => ?_) (fun j hj hjm => ?_) (fun i hi hin => ?_) _ (fun a h => h) (m - k) _ a w (by simp; omega) (fun j hj hjm => ?_) (fun i o hi ho ht e he hb => ?_) hC ?_
  · have := List.all_eq_true.1 hpre i (List.mem_range.2 hi)
    cases ho : ops[i]? with
    | none => simp [ho] at this
    | some o =>
      simp only [ho, Bool.and_eq_true] at this
      refine ⟨o, rfl, by simpa using this.1, fun e he hb => ?_⟩
      have h2 := Array.all_eq_true_iff_forall_mem.1 this.2 e he
      simpa [hb] using h2
  · have := List.all_eq_true.1 hall j (List.mem_range.2 hjm)
    simp only [Bool.or_eq_true, decide_eq_true_eq] at this
    rcases this with h | h
    · omega
    obtain ⟨i, hi, h2⟩ := List.any_eq_true.1 h
    simp only [Bool.and_eq_true, decide_eq_true_eq] at h2
    exact ⟨i, h2.1, by have := List.mem_range.1 hi; omega, h2.2⟩
  · have := List.all_eq_true.1 hbeh i (List.mem_range.2 hin)
    simp only [Bool.or_eq_true, decide_eq_true_eq] at this
    rcases this with h | h
    · omega
    · exact h
  · simp [Array.getElem?_append, hj]
  · have hik : i < k := by
      rcases Nat.lt_or_ge i k with h | h
      · exact h
      · simp [Array.getElem?_append, Nat.not_lt.2 h, show i - k < m - k by omega] at ht
    have := List.all_eq_true.1 hpre i (List.mem_range.2 hi)
    simp only [ho, Bool.and_eq_true] at this
    have h2 := Array.all_eq_true_iff_forall_mem.1 this.2 e he
    have h3 : e.on < i := by simpa [hb] using h2
    simp [Array.getElem?_append, show e.on < k by omega]
  · have := wpAnyQ_lex (P := P) (C := C) (md := md) hns l k (Array.replicate k true ++ Array.replicate (m - k) false) a (fun j => ?_) (by rw [hll]; exact hlex) h
    · rwa [hll] at this
    · rw [hl, List.getElem?_drop, Array.getElem?_extract]
      by_cases hj : k + j < m
      · rw [List.getElem?_take_of_lt hj]; simp
        intro h; omega
      · rw [List.getElem?_take_eq_none (by omega)]; simp; omega
end
end Go.Proofs.Ytedmmpognhpbdaa
