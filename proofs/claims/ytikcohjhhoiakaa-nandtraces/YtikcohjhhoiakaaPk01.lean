/- Texts put together. -/
import Derived.Test.YtikcohjhhoiakaaRows
import Derived.WalkKit
import Derived.Deep.QuietTactic
import Derived.Test.YtikcohjhhoiakaaPk00
import Derived.Deep.RegionHeld3
import Derived.Laws.AppendOwnNone
set_option maxHeartbeats 8000000
namespace Go.Proofs.Ytikcohjhhoiakaa
open Go.RowKit
set_option maxRecDepth 20000
def waits (md : Region.Mode) (ops : Array Oper) (k j : Nat) : Bool := match ops[k]? with
 | some o => o.after.any fun e => Region.binds md e && e.on == j
 | none => false
def thenB (md : Region.Mode) (ops : Array Oper) (k m n : Nat) : Bool :=
 (ops.size == m + n) && Region.noSelect (ops.extract 0 m) && Region.lexFrom md (ops.extract 0 m) (m - k) k (Array.replicate k true ++ Array.replicate (m - k) false)
 && (List.range m).all (fun i => match ops[i]? with | some o => o.guard.isNone && o.after.all (fun e => !Region.binds md e || decide (e.on < i)) | none => false)
 && (List.range m).all (fun j => decide (j < k) || (List.range (m + 1)).any (fun i => decide (j < i) && waits md ops i j))
 && (List.range (m + n)).all (fun i => decide (i ≤ m) || waits md ops i m) && decide (k ≤ m)
theorem waits_spec {md : Region.Mode} {ops : Array Oper} {k j : Nat} (h : waits md ops k j = true) : ∃ o, ops[k]? = some o ∧ ∃ e ∈ o.after, Region.binds md e = true ∧ e.on = j := by
 unfold waits at h
 cases ho : ops[k]? with
 | none => simp [ho] at h
 | some o =>
  simp only [ho] at h
  obtain ⟨e, he, h2⟩ := Array.any_eq_true'.1 h
  simp only [Bool.and_eq_true, beq_iff_eq] at h2
  exact ⟨o, rfl, e, he, h2.1, h2.2⟩
section
variable {P : Program} {ops : Array Oper} {md : Region.Mode} {C : World → Prop} {Q : Exit → Act → World → Prop}
theorem getD_lo {L : Array Bool} {n j : Nat} (b : Bool) (hj : j < L.size) : (L ++ Array.replicate n false).getD j b = L.getD j b := by
 simp [Array.getElem?_append, hj]
theorem getD_hi {L : Array Bool} {n j : Nat} (b : Bool) (hj : L.size ≤ j) (hn : j < L.size + n) : (L ++ Array.replicate n false).getD j b = false := by
 simp [Array.getElem?_append, Nat.not_lt.2 hj, show j - L.size < n by omega]
theorem getD_any {L : Array Bool} {j : Nat} (b c : Bool) (hj : j < L.size) : L.getD j b = L.getD j c := by simp [hj]
theorem all_true {L : Array Bool} {m : Nat} (hs : L.size = m) (h : ∀ j, j < m → L.getD j true = true) : L = Array.replicate m true := by
 apply Array.ext
 ·simp [hs]
 ·intro i h1 h2
  have := h i (by omega)
  simpa [h1] using this
theorem set_lo {L : Array Bool} {n i : Nat} (hi : i < L.size) : (L ++ Array.replicate n false).setIfInBounds i true = L.setIfInBounds i true ++ Array.replicate n false := by
 apply Array.ext_getElem?
 intro j
 rw [Array.getElem?_setIfInBounds, Array.getElem?_append, Array.getElem?_append, Array.getElem?_setIfInBounds, Array.size_setIfInBounds, Array.size_append]
 by_cases e : i = j
 ·subst e; simp [hi]
  omega
 ·simp [e]
theorem wpAny_pre {m n k : Nat} (hsz : ops.size = m + n)
  (hpre : ∀ i, i < m → ∃ o, ops[i]? = some o ∧ o.guard = none ∧ ∀ e ∈ o.after, Region.binds md e = true → e.on < i)
  (hall : ∀ j, k ≤ j → j < m → ∃ i, j < i ∧ i ≤ m ∧ waits md ops i j = true)
  (hbeh : ∀ i, m < i → i < m + n → waits md ops i m = true) (Q' : Act → Prop)
  (hQ : ∀ a, Q' a → ∀ f w, C w → wpAny P md ops Q (f + n) (Array.replicate m true ++ Array.replicate n false) a w) :
  ∀ (fuel : Nat) (L : Array Bool) (a : Act) (w : World), L.size = m → (∀ j, j < k → j < m → L.getD j true = true) →
   (∀ i o, i < m → ops[i]? = some o → L.getD i true = true → ∀ e ∈ o.after, Region.binds md e = true → L.getD e.on false = true) →
   C w → wpAnyQ P md (ops.extract 0 m) C Q' fuel L a → wpAny P md ops Q (fuel + n) (L ++ Array.replicate n false) a w := by
 have hex : ∀ i, i < m → (ops.extract 0 m)[i]? = ops[i]? := fun i hi => by
  rw [Array.getElem?_extract]; simp
  intro h; omega
 have hpr : ∀ (L : Array Bool) (i : Nat), L.size = m → i < m → (i ∈ Region.ready md (ops.extract 0 m) L ↔ i ∈ Region.ready md ops (L ++ Array.replicate n false)) := by
  intro L i hs hi
  obtain ⟨o, ho, hg, hd⟩ := hpre i hi
  rw [mem_ready, mem_ready, hex i hi, ho, getD_lo _ (by omega)]
  constructor
  ·rintro ⟨h1, o', e', h2⟩
   cases e'
   exact ⟨h1, o, rfl, fun e he hb => by rw [getD_lo _ (by have := hd e he hb; omega)]; exact h2 e he hb⟩
  ·rintro ⟨h1, o', e', h2⟩
   cases e'
   refine ⟨h1, o, rfl, fun e he hb => ?_⟩
   have := h2 e he hb
   rwa [getD_lo _ (by have := hd e he hb; omega)] at this
 -- an operation that may come up while one of the first has not yet come up is one of the first
 have hlow : ∀ (L : Array Bool) (i : Nat), L.size = m → (∀ j, j < k → j < m → L.getD j true = true) → (∀ i o, i < m → ops[i]? = some o → L.getD i true = true → ∀ e ∈ o.after, Region.binds md e = true → L.getD e.on false = true) →
   (∃ j, j < m ∧ L.getD j true = false) → i ∈ Region.ready md ops (L ++ Array.replicate n false) → i < m := by
  intro L i hs hk hcl ⟨j, hj, hjf⟩ hi
  rcases Nat.lt_or_ge i m with h | h
  ·exact h
  exfalso
  obtain ⟨hun, o, ho, hd⟩ := mem_ready.1 hi
  have hio : i < m + n := by rw [← hsz]; exact (Array.getElem?_eq_some_iff.1 ho).1
  have him : i = m := by
   rcases Nat.lt_or_ge m i with h' | h'
   ·obtain ⟨o', ho', e, he, hb, hon⟩ := waits_spec (hbeh i h' hio)
    rw [ho] at ho'; cases ho'
    have := hd e he hb
    rw [hon, getD_hi _ (by omega) (by omega)] at this
    cases this
   ·omega
  subst him
  have hdown : ∀ d j, i - 1 - d = j → j < i → L.getD j true = true := by
   intro d
   induction d using Nat.strongRecOn with
   | ind d ih =>
    intro j hdj hji
    rcases Nat.lt_or_ge j k with hjk | hjk
    ·exact hk j hjk hji
    obtain ⟨c, hc1, hc2, hw⟩ := hall j hjk hji
    obtain ⟨o', ho', e, he, hb, hon⟩ := waits_spec hw
    rcases Nat.lt_or_ge c i with hci | hci
    ·have h1 := ih (i - 1 - c) (by omega) c (by omega) hci
     have h2 := hcl c o' hci ho' h1 e he hb
     rw [hon] at h2
     rw [getD_any true false (by omega)]; exact h2
    ·have : c = i := by omega
     subst this
     rw [ho] at ho'; cases ho'
     have h2 := hd e he hb
     rw [hon, getD_lo _ (by omega)] at h2
     rw [getD_any true false (by omega)]; exact h2
  have := hdown (i - 1 - j) j (by omega) hj
  rw [this] at hjf; cases hjf
 -- one of the first that has not come up yet: one of them may come up
 have hsome : ∀ (L : Array Bool), L.size = m → (∃ j, j < m ∧ L.getD j true = false) → ∃ i, i < m ∧ i ∈ Region.ready md (ops.extract 0 m) L := by
  intro L hs ⟨j, hj, hjf⟩
  induction j using Nat.strongRecOn with
  | ind j ih =>
   obtain ⟨o, ho, hg, hd⟩ := hpre j hj
   by_cases hq : ∀ e ∈ o.after, Region.binds md e = true → L.getD e.on false = true
   ·exact ⟨j, hj, mem_ready.2 ⟨hjf, o, by rw [hex j hj]; exact ho, hq⟩⟩
   ·simp only [Classical.not_forall] at hq
    obtain ⟨e, he, hb, hn⟩ := hq
    have hlt := hd e he hb
    refine ih e.on hlt (by omega) ?_
    rw [getD_any true false (by omega)]
    simpa using hn
 intro fuel
 induction fuel with
 | zero =>
  intro L a w hs hk hcl hC h
  have hal : ∀ j, j < m → L.getD j true = true := by
   intro j hj
   cases hv : L.getD j true with
   | true => rfl
   | false =>
    obtain ⟨i, _, hi⟩ := hsome L hs ⟨j, hj, hv⟩
    rw [h.1] at hi; cases hi
  rw [all_true hs hal]
  exact hQ a h.2 0 w hC
 | succ fuel ih =>
  intro L a w hs hk hcl hC h
  by_cases hal : ∀ j, j < m → L.getD j true = true
  ·rw [all_true hs hal]
   refine hQ a (h.1 ?_) (fuel + 1) w hC
   apply List.eq_nil_iff_forall_not_mem.2
   intro i hi
   obtain ⟨hun, o, ho, _⟩ := mem_ready.1 hi
   have him : i < m := by
    have := (Array.getElem?_eq_some_iff.1 ho).1
    simp at this; omega
   rw [hal i him] at hun; cases hun
  ·have hex2 : ∃ j, j < m ∧ L.getD j true = false := by
    simp only [Classical.not_forall] at hal
    obtain ⟨j, hj, hn⟩ := hal
    exact ⟨j, hj, by simpa using hn⟩
   rw [Nat.add_right_comm]
   refine ⟨fun h0 => ?_, fun i hi => ?_⟩
   ·obtain ⟨i, him, hi⟩ := hsome L hs hex2
    rw [hpr L i hs him, h0] at hi; cases hi
   ·have him := hlow L i hs hk hcl hex2 hi
    have hip := (hpr L i hs him).2 hi
    have hq := h.2 i hip
    obtain ⟨o, ho, hg, hd⟩ := hpre i him
    obtain ⟨hun, o', ho', hdd⟩ := mem_ready.1 hi
    rw [ho] at ho'; cases ho'
    unfold qOp at hq
    unfold wpOp
    rw [hex i him, ho] at hq
    rw [ho]
    have hw1 : ∀ y, Region.wanted o y = true := fun y => by simp [Region.wanted, hg]
    simp only [hw1, if_true] at hq ⊢
    refine .inl (Oper.wp_of_quiet hC (fun a' w' hw' hK => ?_) hq)
    rw [set_lo (by omega)]
    refine ih _ a' w' (by simpa using hs) (fun j hj hjm => ?_) (fun c oc hc hoc hct e he hb => ?_) hw' hK
    ·by_cases hij : i = j
     ·subst hij; simp [hs, him]
     ·rw [getD_set_ne true hij]; exact hk j hj hjm
    ·by_cases hie : i = e.on
     ·rw [← hie]; simp [hs, him]
     ·rw [getD_set_ne false hie]
      by_cases hic : i = c
      ·subst hic
       rw [ho] at hoc; cases hoc
       have := hdd e he hb
       rwa [getD_lo _ (by have := hd e he hb; omega)] at this
      ·rw [getD_set_ne true hic] at hct
       exact hcl c oc hc hoc hct e he hb
theorem wpAny_quiet_then (k m n : Nat) {fuel : Nat} {listed : Array Bool} {a : Act} {w : World} (l : List Oper) (hB : thenB md ops k m n = true) (hl : l = (ops.toList.take m).drop k) (hf : fuel = (m - k) + n)
  (hL : listed = (Array.replicate k true ++ Array.replicate (m - k) false) ++ Array.replicate n false) (hC : C w)
  (h : wpQuiet P (ops.extract 0 m) C (fun a' => ∀ f w', C w' → wpAny P md ops Q (f + n) (Array.replicate m true ++ Array.replicate n false) a' w') l a) : wpAny P md ops Q fuel listed a w := by
 simp only [thenB, Bool.and_eq_true, beq_iff_eq, decide_eq_true_eq] at hB
 obtain ⟨⟨⟨⟨⟨⟨hsz, hns⟩, hlex⟩, hpre⟩, hall⟩, hbeh⟩, hkm⟩ := hB
 subst hf hL
 have hll : l.length = m - k := by rw [hl]; simp; omega
 refine wpAny_pre (k := k) hsz (fun i hi => ?_) (fun j hj hjm => ?_) (fun i hi hin => ?_) _ (fun a h => h) (m - k) _ a w (by simp; omega) (fun j hj hjm => ?_) (fun i o hi ho ht e he hb => ?_) hC ?_
 ·have := List.all_eq_true.1 hpre i (List.mem_range.2 hi)
  cases ho : ops[i]? with
  | none => simp [ho] at this
  | some o =>
   simp only [ho, Bool.and_eq_true] at this
   refine ⟨o, rfl, by simpa using this.1, fun e he hb => ?_⟩
   have h2 := Array.all_eq_true_iff_forall_mem.1 this.2 e he
   simpa [hb] using h2
 ·have := List.all_eq_true.1 hall j (List.mem_range.2 hjm)
  simp only [Bool.or_eq_true, decide_eq_true_eq] at this
  rcases this with h | h
  ·omega
  obtain ⟨i, hi, h2⟩ := List.any_eq_true.1 h
  simp only [Bool.and_eq_true, decide_eq_true_eq] at h2
  exact ⟨i, h2.1, by have := List.mem_range.1 hi; omega, h2.2⟩
 ·have := List.all_eq_true.1 hbeh i (List.mem_range.2 hin)
  simp only [Bool.or_eq_true, decide_eq_true_eq] at this
  rcases this with h | h
  ·omega
  ·exact h
 ·simp [Array.getElem?_append, hj]
 ·have hik : i < k := by
   rcases Nat.lt_or_ge i k with h | h
   ·exact h
   ·simp [Array.getElem?_append, Nat.not_lt.2 h, show i - k < m - k by omega] at ht
  have := List.all_eq_true.1 hpre i (List.mem_range.2 hi)
  simp only [ho, Bool.and_eq_true] at this
  have h2 := Array.all_eq_true_iff_forall_mem.1 this.2 e he
  have h3 : e.on < i := by simpa [hb] using h2
  simp [Array.getElem?_append, show e.on < k by omega]
 ·have := wpAnyQ_lex (P := P) (C := C) (md := md) hns l k (Array.replicate k true ++ Array.replicate (m - k) false) a (fun j => ?_) (by rw [hll]; exact hlex) h
  ·rwa [hll] at this
  ·rw [hl, List.getElem?_drop, Array.getElem?_extract]
   by_cases hj : k + j < m
   ·rw [List.getElem?_take_of_lt hj]; simp
    intro h; omega
   ·rw [List.getElem?_take_eq_none (by omega)]; simp; omega
end
theorem Ar.bytG {w : World} {b p : Nat} {xs : List Int} (h : Ar w b p .u8 xs) (ha : AllB xs) (n c : Nat) (hn : xs.length = n) (hc : n ≤ c) (hm : c ≤ 9223372036854775807) : Byt w (.slice (some ⟨b, p, none⟩) n c) xs :=
 ⟨some ⟨b, p, none⟩, c, by rw [hn], by omega, hm, ha, (by intro h; cases h), fun _ => ⟨b, p, rfl, fun t ht => h.cell t ht⟩⟩
theorem Ar.subG {w : World} {b o : Nat} {k : IntKind} {xs : List Int} (h : Ar w b o k xs) (s : Nat) (ys : List Int) (hl : s + ys.length ≤ xs.length) (hg : ∀ t, t < ys.length → gb ys t = gb xs (s + t)) : Ar w b (o + s) k ys := Ar.mk fun i hi => by
 rw [Nat.add_assoc, hg i hi]
 exact ⟨h.cell (s + i) (by omega), h.free (s + i) (by omega)⟩
theorem run_copyG (w : World) (b p dl dc : Nat) (ao : Option Addr) (ys : List Int) (cap : Nat) (ty : TypeId) (h5 : 0 < ys.length → ∃ b off, ao = some ⟨b, off, none⟩ ∧ ∀ t, t < ys.length → w.cell? ⟨b, off + t, none⟩ = some (.int .u8 (gb ys t))) (ht : w.there b p (min ys.length dl)) :
  (Builtin.copy_ #[53, 53] ty #[.slice (some ⟨b, p, none⟩) dl dc, .slice ao ys.length cap]).run Try.prog w = .ok (.int .i64 ((min ys.length dl : Nat) : Int)) (w.setCells b p ((ys.take dl).map (Value.int .u8))) := by
 obtain ⟨i0, hi, hz0, hz1, hz2⟩ := info_parts info_u8
 have hs : (Try.prog.info? 5).map (·.size) = some 1 := by rw [hi]; simp [hz1]
 by_cases hz : min ys.length dl = 0
 ·have := run_copy_none (P := Try.prog) w 53 53 ty 5 (some ⟨b, p, none⟩) ao dl dc ys.length cap Try.underlying53 hs hz
  rw [this, hz]
  have : ys.take dl = [] := by
   rcases Nat.eq_zero_or_pos dl with h | h
   ·subst h; simp
   ·have : ys = [] := List.eq_nil_of_length_eq_zero (by omega)
    subst this; simp
  rw [this]; rfl
 ·obtain ⟨b', off, rfl, hc⟩ := h5 (by omega)
  have hlen : ((ys.take dl).map (Value.int .u8)).length = min ys.length dl := by simp; omega
  have := run_copy_cells (P := Try.prog) w 53 53 ty 5 b p dl dc ⟨b', off, none⟩ ys.length cap ((ys.take dl).map (Value.int .u8)) Try.underlying53 hs hlen (fun j u hj => by
   have hj' : j < min ys.length dl := by rw [← hlen]; exact (List.getElem?_eq_some_iff.1 hj).1
   rw [Addr.add_mid, hc j (by omega), ← hj]
   simp [gb, List.getD, show j < dl by omega, show j < ys.length by omega]) (fun j hj => (ht j (by rw [← hlen]; exact hj)).1) (fun j hj => (ht j (by rw [← hlen]; exact hj)).2) (fun u hu => by
   simp only [List.mem_map] at hu
   obtain ⟨x, _, rfl⟩ := hu
   rfl)
  rw [this, hlen]; rfl
theorem thereG {w : World} {b : Nat} {k : IntKind} {xs : List Int} (h : Ar w b 0 k xs) (p n : Nat) (hl : p + n ≤ xs.length) : w.there b p n := fun j hj => by
 have := h.2 (p + j) (by omega)
 rwa [Nat.zero_add] at this
theorem Ar.layG {w : World} {b : Nat} {xs : List Int} (h : Ar w b 0 .u8 xs) (p : Nat) (ys : List Int) (hl : p + ys.length ≤ xs.length) : Ar (w.setCells b p (ys.map (Value.int .u8))) b 0 .u8 (laid xs p ys) := by
 have := h.lay p ys hl
 rwa [Nat.zero_add] at this
section
variable {ops : Array Oper} {o : Oper} {a : Act} {Q : Exit → Act → World → Prop} {K : Act → World → Prop} {E : Prop}
end
theorem take_lawG {ops : Array Oper} {Q : Exit → Act → World → Prop} (i : Nat) {oi : Oper} (d : Option Tmp) (v : Value) {fuel : Nat} {listed : Array Bool} {a : Act} {w : World} (hi : ops[i]? = some oi) (hd : oi.dst = d)
  (hs : Region.noSelect ops = true) (hf : Region.free .any ops listed i = true) (hr : (Region.ready .any ops listed).contains i = true)
  (hQ : ∀ c a w, Q (.panic c) (a.put d v) w → Q (.panic c) a w) (hy : Yields Try.prog ops oi v a)
  (h : wpAny Try.prog .any ops Q fuel (listed.setIfInBounds i true) (a.put d v) w) : wpAny Try.prog .any ops Q (fuel + 1) listed a w := by
 subst hd
 exact wpAny_take hi hs hf hr hQ hy h
theorem take_lawH {ops : Array Oper} {Q : Exit → Act → World → Prop} {S : World → Prop} (i : Nat) {oi : Oper} (d : Option Tmp) (v : Value) {fuel : Nat} {listed : Array Bool} {a : Act} {w : World} (hi : ops[i]? = some oi) (hd : oi.dst = d)
  (hs : Region.noSelect ops = true) (hf : Region.free .any ops listed i = true) (hr : (Region.ready .any ops listed).contains i = true)
  (hQ : ∀ c a w, Q (.panic c) (a.put d v) w → Q (.panic c) a w) (hy : YieldsIf Try.prog ops S oi v a) (hS : S w)
  (h : wpAnyH Try.prog .any ops Q S fuel (listed.setIfInBounds i true) (a.put d v) w) : wpAnyH Try.prog .any ops Q S (fuel + 1) listed a w := by
 subst hd
 exact wpAnyH_take hi hs hf hr hQ hy hS h
section
variable {ops : Array Oper} {C : World → Prop} {K : Act → Prop} {o : Oper} {a : Act}
end
section
variable {ops : Array Oper} {rest : List Oper} {o : Oper} {a : Act} {Q : Exit → Act → World → Prop}
end
theorem hdH {p : Prop} (h : p) : Hid p := h
theorem bT {w a b : World} (h : Hid (Below w.heap.size w a)) (h' : Below a.heap.size a b) : Hid (Below w.heap.size w b) := h.out.trans (h'.mono h.out.size)
theorem zE1 {α : Type} (l : List α) (i : Nat) (a : α) : l.toArray.setIfInBounds i a = (l.set i a).toArray := List.setIfInBounds_toArray ..
theorem zE2 {α : Type} (a b : α) (l : List α) : (a :: l).set 0 b = b :: l := List.set_cons_zero ..
theorem zE3 {α : Type} (a b : α) (l : List α) (n : Nat) : (a :: l).set (n + 1) b = a :: l.set n b := List.set_cons_succ ..
theorem tkH {ops : Array Oper} {Q : Exit → Act → World → Prop} {S : World → Prop} (i : Nat) {oi : Oper} (d : Option Tmp) (v : Value) {fuel : Nat} {listed : Array Bool} {a : Act} {w : World} (hi : ops[i]? = some oi) (hd : oi.dst = d) (hy : YieldsIf Try.prog ops S oi v a) (hS : S w)
    (h : wpAnyH Try.prog .any ops Q S fuel (listed.setIfInBounds i true) (a.put d v) w)
    (hs : Region.noSelect ops = true := by kernel_rfl) (hf : Region.free .any ops listed i = true := by kernel_rfl) (hr : (Region.ready .any ops listed).contains i = true := by kernel_rfl)
    (hQ : ∀ c a w, Q (.panic c) (a.put d v) w → Q (.panic c) a w := by exact fun _ _ _ h => h) : wpAnyH Try.prog .any ops Q S (fuel + 1) listed a w := take_lawH i d v hi hd hs hf hr hQ hy hS h
theorem tkR {ops : Array Oper} {Q : Exit → Act → World → Prop} {S : World → Prop} (i : Nat) {oi : Oper} (d : Option Tmp) (v : Value) {fuel : Nat} {listed : Array Bool} {a : Act} {w : World} (hi : ops[i]? = some oi) (hd : oi.dst = d) (hS : S w)
    (h : wpAnyH Try.prog .any ops Q S fuel (listed.setIfInBounds i true) (a.put d v) w) (hy : YieldsIf Try.prog ops S oi v a := by exact Or.inl ⟨by rfl, fun _ _ => by rfl⟩)
    (hs : Region.noSelect ops = true := by kernel_rfl) (hf : Region.free .any ops listed i = true := by kernel_rfl) (hr : (Region.ready .any ops listed).contains i = true := by kernel_rfl)
    (hQ : ∀ c a w, Q (.panic c) (a.put d v) w → Q (.panic c) a w := by exact fun _ _ _ h => h) : wpAnyH Try.prog .any ops Q S (fuel + 1) listed a w := take_lawH i d v hi hd hs hf hr hQ hy hS h
theorem rd1 {ops : Array Oper} {Q : Exit → Act → World → Prop} {S : World → Prop} (i : Nat) {o : Oper} {fuel : Nat} {listed : Array Bool} {a : Act} {w : World} (ho : ops[i]? = some o)
    (h : ∀ K' : Act → World → Prop, Shut (∀ a w, S w → (S w → wpAnyH Try.prog .any ops Q S fuel (listed.setIfInBounds i true) a w) → K' a w) → if Region.wanted o (yielded ops a.tmps) = true then Oper.wp Try.prog o a w K' Q else K' (a.put o.dst undef) w)
    (hr : Region.ready .any ops listed = [i] := by kernel_rfl) : wpAnyH Try.prog .any ops Q S (fuel + 1) listed a w := wpAnyH_ready hr (by simp) (AllReadyH.cons ho h AllReadyH.nil)
theorem tkG {ops : Array Oper} {Q : Exit → Act → World → Prop} {S : World → Prop} (i : Nat) {oi : Oper} (d : Option Tmp) (v : Value) {fuel : Nat} {listed : Array Bool} {a : Act} {w : World} (hi : ops[i]? = some oi) (hd : oi.dst = d) (hS : S w)
    (h : wpAnyH Try.prog .any ops Q S fuel (listed.setIfInBounds i true) (a.put d v) w) (hy : YieldsIf Try.prog ops S oi v a := by exact Or.inl ⟨by rfl, fun _ _ => by go_simp⟩)
    (hs : Region.noSelect ops = true := by kernel_rfl) (hf : Region.free .any ops listed i = true := by kernel_rfl) (hr : (Region.ready .any ops listed).contains i = true := by kernel_rfl)
    (hQ : ∀ c a w, Q (.panic c) (a.put d v) w → Q (.panic c) a w := by exact fun _ _ _ h => h) : wpAnyH Try.prog .any ops Q S (fuel + 1) listed a w := take_lawH i d v hi hd hs hf hr hQ hy hS h
theorem bG {w a b : World} {j : Nat} (h : Hid (Below w.heap.size w a)) (kp : a.grownBy b (some j)) (hj : w.heap.size ≤ j) : Hid (Below w.heap.size w b) := h.out.trans ((Below.refl w.heap.size _).grown kp h.out.size (fun _ e => by have e := Option.some.inj e; omega))
theorem zM1 {α β : Type} (f : α → β) (l : List α) : l.toArray.map f = (l.map f).toArray := List.map_toArray ..
theorem zM2 {α β : Type} (f : α → β) (a : α) (l : List α) : (a :: l).map f = f a :: l.map f := List.map_cons ..
theorem zM3 {α β : Type} (f : α → β) : ([] : List α).map f = [] := List.map_nil ..
theorem tR : (1 : Nat) = 1 := rfl
end Go.Proofs.Ytikcohjhhoiakaa
namespace Go.Proofs.Ytikcohjhhoiakaa.fa
open Go.RowKit
set_option maxRecDepth 20000
theorem byt_drawn {w : World} {v : Value} {xs : List Int} (h : Byt w v xs) (m : Nat) : Byt (w.drewN m) v xs := h
theorem below_drawn {B : Nat} {w w' : World} (h : Below B w w') (n : Nat) : Below B w (w'.drewN n) := ⟨h.os, h.tape, h.output, h.size, h.block⟩
def Var (w : World) (c : Nat) (v : Value) : Prop := w.cell? ⟨c, 0, none⟩ = some v ∧ w.frozen? ⟨c, 0, none⟩ = false
theorem Var.new (w : World) (v : Value) (t : TypeId) : Var (w.alloc (.cells #[v] t)) w.heap.size v := ⟨World.cell?_alloc_at _ _ _ _ rfl, World.frozen?_alloc_at _ _ _ _ rfl⟩
theorem Var.below {w w' : World} {c B : Nat} {v : Value} (h : Var w c v) (hb : Below B w w') (hc : c < B) : Var w' c v := ⟨by rw [hb.cell hc]; exact h.1, by rw [hb.frozen hc]; exact h.2⟩
theorem Var.set {w : World} {c : Nat} {v : Value} (h : Var w c v) (u : Value) : Var (w.setCell ⟨c, 0, none⟩ u) c u := ⟨World.cell?_setCell_same _ _ _ h.1, by rw [World.frozen?_setCell]; exact h.2⟩
theorem byt_form {w : World} {v : Value} {xs : List Int} (h : Byt w v xs) : ∃ ao cap, v = .slice ao xs.length cap := by
 obtain ⟨ao, cap, rfl, _⟩ := h
 exact ⟨ao, cap, rfl⟩
theorem byt_other {w : World} {v u old : Value} {xs : List Int} {p : Addr} (h : Byt w v xs) (hc : w.cell? p = some old) (ho : ∀ x, old ≠ .int .u8 x) : Byt (w.setCell p u) v xs := by
 obtain ⟨ao, cap, rfl, h1, h2, h3, h4, h5⟩ := h
 refine ⟨ao, cap, rfl, h1, h2, h3, h4, fun hp => ?_⟩
 obtain ⟨b, off, rfl, hb⟩ := h5 hp
 refine ⟨b, off, rfl, fun t ht => ?_⟩
 rw [World.cell?_setCell_other _ _ _ _ (by intro e; rw [e] at hc; rw [hb t ht] at hc; injection hc with hc; exact ho _ hc.symm)]
 exact hb t ht
def ms (m : List Int) : List Int := if m.length = 0 then [255] else m
theorem ms_pos (m : List Int) : 0 < (ms m).length := by
 unfold ms
 split
 ·decide
 ·omega
theorem ms_all {m : List Int} (h : AllB m) : AllB (ms m) := by
 unfold ms
 split
 ·exact allB_mem fun x hx => by simp at hx; omega
 ·exact h
def mb (m : List Int) (i : Nat) : Int := gb (ms m) (i % (ms m).length)
theorem mb_bd {m : List Int} (h : AllB m) (i : Nat) : 0 ≤ mb m i ∧ mb m i ≤ 255 := ms_all h _
theorem bit255 : ∀ t, t < 8 → bit 255 t = true := by decide
theorem mb_mk (m : List Int) (i : Nat) : mk m i = bit (mb m (i / 8)).toNat (i % 8) := by
 unfold mk mb ms
 by_cases h : m.length = 0
 ·rw [if_pos h, h, show [(255 : Int)].length = 1 from rfl, Nat.mod_one]
  show (true || _) = bit 255 (i % 8)
  rw [bit255 _ (by omega), Bool.true_or]
 ·rw [if_neg h, show (m.length == 0) = false by simpa using h, Bool.false_or]
def Say (w : World) (c : Nat) (m : List Int) : Prop := ∃ sv, w.cell? ⟨c, 0, none⟩ = some sv ∧ Byt w sv (ms m)
theorem Say.lt {w : World} {c : Nat} {m : List Int} (h : Say w c m) : c < w.heap.size := by
 obtain ⟨sv, h1, _⟩ := h
 exact World.block_lt_of_cell? w _ h1
theorem Say.below {w w' : World} {c : Nat} {m : List Int} (h : Say w c m) (hb : Below w.heap.size w w') : Say w' c m := by
 have hl := h.lt
 obtain ⟨sv, h1, h2⟩ := h
 exact ⟨sv, by rw [hb.cell hl]; exact h1, h2.below hb⟩
theorem power_any (k : Nat) (w : World) (hk : k < 8) :
  Calls Try.prog 88 #[.int .i64 k] w fun e w' => e = .returned (.int .i64 ((2 ^ k : Nat) : Int)) ∧ w' = w := by
 have k1 : (k : Int) < 8 := by omega
 obtain ⟨z, hz⟩ : ∃ z, z = 2 ^ k := ⟨_, rfl⟩
 have HZ := hdH (hz)
 rw [← hz]
 clear hz
 go_enter Try.func88, Try.ntmps88
 go_wp2
 go_loopw [3, 4] (fun p i wr => ∃ j q : Nat, j ≤ k ∧ i = .int .i64 j ∧ p = .int .i64 q ∧ Hid (q = 2 ^ j) ∧ wr = w) (fun _ i _ => k - (intOf i).toNat)
 case atStart => exact ⟨0, 1, Nat.zero_le _, rfl, rfl, rfl, rfl⟩
 case round =>
  obtain ⟨j, q, hj, rfl, rfl, HQ, rfl⟩ := hrel
  by_cases hlt : j < k
  ·have lq : q ≤ 64 := by
    rw [HQ.out]
    exact Nat.pow_le_pow_right (by omega) (show j ≤ 6 by omega)
   have j1 : (j : Int) < (k : Int) := by omega
   go_wp2
   go_roundw
   case rel => exact ⟨j + 1, q * 2, by omega, by go_num, by go_num, by show _ = _; rw [HQ.out, Nat.pow_succ], trivial⟩
   case measure => simp [intOf]; omega
  ·have e : j = k := by omega
   subst e
   have e2 : q = z := by rw [HQ.out, HZ.out]
   subst e2
   go_wp2
   go_ret
   exact ⟨rfl, rfl⟩
theorem said_any (c : Nat) (m : List Int) (i : Nat) (w : World) (h : Say w c m) (hi : i ≤ 9223372036854775807) :
  Calls Try.prog 95 #[.int .i64 i, .pointer (some ⟨c, 0, none⟩)] w fun e w' => e = .returned (.int .u8 (mb m i)) ∧ ∃ n, w' = w.drewN n := by
 obtain ⟨sv, h1, ao, cap, rfl, h2, h3, h4, h5, h6⟩ := h
 have hp := ms_pos m
 obtain ⟨b, off, rfl, hc⟩ := h6 hp
 unfold mb
 generalize ms m = l at *
 generalize hn : l.length = n at *
 obtain ⟨j, hj⟩ : ∃ j, j = i % n := ⟨_, rfl⟩
 rw [← hj]
 have jl : j < n := by rw [hj]; exact Nat.mod_lt _ hp
 have c1 := hc j jl
 have r1 : (i : Int).tmod (n : Int) = (j : Int) := by rw [Int.tmod_eq_emod_of_nonneg (by omega), hj]; omega
 have n0 : (n : Int) ≠ 0 := by omega
 have r2 : IntKind.i64.wrap (j : Int) = j := by rw [IntKind.wrap_i64]; omega
 have j1 : (j : Int) < (n : Int) := by omega
 have j0 : (0 : Int) ≤ (j : Int) := by omega
 clear hc h6 hp hn hj h4 h5
 generalize gb l j = x at *
 go_enter Try.func95, Try.ntmps95
 go_wp2
 go_quiet (fail)
 go_wp2
 go_ret
 exact ⟨rfl, _, rfl⟩
def OwnC (B : Nat) (w : World) (g n cap : Nat) (xs : List Int) : Prop := xs.length = n ∧ B ≤ g ∧ w.ownsRow B 5 1 (.slice (some ⟨g, 0, none⟩) n cap) n (xs.map (Value.int .u8))
theorem OwnC.cell {B : Nat} {w : World} {g n cap : Nat} {xs : List Int} (h : OwnC B w g n cap xs) {k : Nat} (hk : k < n) : w.cell? ⟨g, k, none⟩ = some (.int .u8 (gb xs k)) := by
 rw [h.2.2.cellAt k (by omega)]
 have := h.1
 simp [gb, List.getD, show k < xs.length by omega]
theorem OwnC.free {B : Nat} {w : World} {g n cap : Nat} {xs : List Int} (h : OwnC B w g n cap xs) (k : Nat) : w.frozen? ⟨g, k, none⟩ = false := h.2.2.frozenAt k
theorem OwnC.set {B : Nat} {w : World} {g n cap : Nat} {xs : List Int} (h : OwnC B w g n cap xs) (k : Nat) (x : Int) : OwnC B (w.setCell ⟨g, k, none⟩ (.int .u8 x)) g n cap (xs.set k x) :=
 ⟨by simpa using h.1, h.2.1, by have := (h.2.2.stored k (.int .u8 x)).1; rwa [← List.map_set] at this⟩
theorem OwnC.drewN {B : Nat} {w : World} {g n cap : Nat} {xs : List Int} (h : OwnC B w g n cap xs) (m : Nat) : OwnC B (w.drewN m) g n cap xs := h
theorem OwnC.own {B : Nat} {w : World} {g n cap : Nat} {xs : List Int} (h : OwnC B w g n cap xs) : Own B w (.slice (some ⟨g, 0, none⟩) n cap) xs := by
 have h1 := h.1
 subst h1
 exact h.2.2
theorem own_row {B : Nat} {w : World} {v : Value} {xs : List Int} (h : Own B w v xs) (hp : 0 < xs.length) : ∃ g cap, v = .slice (some ⟨g, 0, none⟩) xs.length cap ∧ OwnC B w g xs.length cap xs := by
 rcases h.2 with ⟨_, hn⟩ | ⟨g, cap, cur, rfl, hg, hr⟩
 ·omega
 ·exact ⟨g, cap, rfl, rfl, hg, h⟩
theorem pushs_law {ops : Array Oper} {rest : List Oper} {o : Oper} {a : Act} {Q : Exit → Act → World → Prop} (w : World) (hg : o.guard = none) (s x : Operand) (hop : o.op = .call { callee := .builtin .append, args := #[s, x], argTypes := #[53, 53] })
  (B : Nat) (hB : B ≤ w.heap.size) (v vy : Value) (xs ys : List Int) (hs : a.eval s = v) (hx : a.eval x = vy) (hown : Own B w v xs) (hy : Byt w vy ys) (hm : xs.length + ys.length ≤ 140737488355328)
  (hK : ∀ v' w', Own B w' v' (xs ++ ys) → Below B w w' → wpList Try.prog ops Q rest (a.put o.dst v') w') :
  wpList Try.prog ops Q (o :: rest) a w := by
 obtain ⟨i0, hi, hz0, hz1, hz2⟩ := info_parts info_u8
 obtain ⟨ao, cap, rfl, h1, h2, h3, h4, h5⟩ := hy
 cases ao with
 | none =>
  have hc := h4 rfl
  subst hc
  have : ys = [] := List.eq_nil_of_length_eq_zero (by omega)
  subst this
  refine wpList_append_own_none hg s x 53 hop B 5 i0 1 Try.underlying53 hi v xs.length _ hs hown hx (hK v w ?_ (Below.refl _ _))
  rwa [List.append_nil]
 | some ad =>
  refine wpList_append_own _ hg s x 53 hop B 5 i0 (.int .u8 0) 1 1 Try.underlying53 hi hz0 hz1 hz2 rfl (by decide) v xs.length _ hs hown ad ys.length cap (ys.map (Value.int .u8)) hx (by simp) ?_ ?_ (by simp only [maxLen]; omega) (by omega) hB fun v' w' h1 h2 _ => ?_
  ·intro j u hj
   have hjl : j < ys.length := by have := (List.getElem?_eq_some_iff.1 hj).1; simpa using this
   obtain ⟨b, off, e, hc⟩ := h5 (by omega)
   cases e
   rw [Addr.add_mid, hc j hjl, ← hj]
   simp [gb, List.getD, hjl]
  ·intro u hu
   simp only [List.mem_map] at hu
   obtain ⟨y, _, rfl⟩ := hu
   rfl
  ·refine hK v' w' ?_ ?_
   ·show w'.ownsRow B 5 1 v' (xs ++ ys).length ((xs ++ ys).map (Value.int .u8))
    simpa using h1
   ·exact (Below.refl B w).grown h2 hB fun k hk => (World.ownsRow.lt hown k hk).1
def fl (f : Int × Bool × Value) : List Value := [.int .i64 f.1, .bool f.2.1, f.2.2]
def fv (f : Int × Bool × Value) : Value := .agg (fl f).toArray
def f0 : Int × Bool × Value := (0, false, .slice none 0 0)
def FlA (w : World) (b p : Nat) (f : Int × Bool × Value) : Prop := w.cell? ⟨b, p, none⟩ = some (.int .i64 f.1) ∧ w.cell? ⟨b, p + 1, none⟩ = some (.bool f.2.1) ∧ w.cell? ⟨b, p + 2, none⟩ = some f.2.2
theorem FlA.range {w : World} {b p : Nat} {f : Int × Bool × Value} (h : FlA w b p f) : w.rangeAt b p (fl f) := fun j v hv => by
 match j, hv with
 | 0, hv => simp [fl] at hv; subst hv; exact h.1
 | 1, hv => simp [fl] at hv; subst hv; exact h.2.1
 | 2, hv => simp [fl] at hv; subst hv; exact h.2.2
 | j + 3, hv => simp [fl] at hv
theorem FlA.of {w : World} {b p : Nat} {f : Int × Bool × Value} (h : w.rangeAt b p (fl f)) : FlA w b p f := ⟨h 0 _ rfl, h 1 _ rfl, h 2 _ rfl⟩
theorem FlA.lt {w : World} {b p : Nat} {f : Int × Bool × Value} (h : FlA w b p f) : b < w.heap.size := World.block_lt_of_cell? w _ h.1
theorem FlA.heap {w w' : World} {b p : Nat} {f : Int × Bool × Value} (h : FlA w b p f) (e : w'.heap[b]? = w.heap[b]?) : FlA w' b p f :=
 ⟨by rw [World.cell?_of_block (w := w) (w' := w') (a := ⟨b, p, none⟩) e]; exact h.1, by rw [World.cell?_of_block (w := w) (w' := w') (a := ⟨b, p + 1, none⟩) e]; exact h.2.1, by rw [World.cell?_of_block (w := w) (w' := w') (a := ⟨b, p + 2, none⟩) e]; exact h.2.2⟩
theorem FlA.below {w w' : World} {b p B : Nat} {f : Int × Bool × Value} (h : FlA w b p f) (hb : Below B w w') (hB : b < B) : FlA w' b p f := h.heap (hb.block b hB)
def FlV (w : World) (c : Nat) (f : Int × Bool × Value) : Prop := FlA w c 0 f ∧ w.there c 0 3
theorem FlV.heap {w w' : World} {c : Nat} {f : Int × Bool × Value} (h : FlV w c f) (e : w'.heap[c]? = w.heap[c]?) : FlV w' c f :=
 ⟨h.1.heap e, fun j hj => by
  rw [World.cell?_of_block (w := w) (w' := w') (a := ⟨c, 0 + j, none⟩) e, World.frozen?_of_block (w := w) (w' := w') (a := ⟨c, 0 + j, none⟩) e]
  exact h.2 j hj⟩
theorem FlV.below {w w' : World} {c B : Nat} {f : Int × Bool × Value} (h : FlV w c f) (hb : Below B w w') (hc : c < B) : FlV w' c f := h.heap (hb.block c hc)
theorem flv_other {w : World} {c b o : Nat} {f : Int × Bool × Value} (h : FlV w c f) (u : Value) (hp : c ≠ b) : FlV (w.setCell ⟨b, o, none⟩ u) c f := h.heap (Below.heap_setCell w ⟨b, o, none⟩ u c hp)
theorem FlV.new (w : World) (f : Int × Bool × Value) : FlV (w.alloc (.cells (fl f).toArray 67)) w.heap.size f := by
 have e := fun j => cell_of_row (w.alloc (.cells (fl f).toArray 67)) w.heap.size j _ 67 (0, 0) (heap_alloc_last w _)
 refine ⟨⟨by rw [e]; rfl, by rw [e]; rfl, by rw [e]; rfl⟩, fun j hj => ⟨?_, World.frozen?_alloc_at _ _ _ _ rfl⟩⟩
 rw [e]
 have : j = 0 ∨ j = 1 ∨ j = 2 := by omega
 rcases this with rfl | rfl | rfl <;> rfl
theorem FlV.mask {w : World} {c : Nat} {f : Int × Bool × Value} (h : FlV w c f) (m : Value) : FlV (w.setCell ⟨c, 2, none⟩ m) c (f.1, f.2.1, m) := by
 refine ⟨⟨?_, ?_, ?_⟩, fun j hj => ?_⟩
 ·rw [World.cell?_setCell_other _ _ _ _ (by intro e; injection e with _ e2; omega)]; exact h.1.1
 ·rw [World.cell?_setCell_other _ _ _ _ (by intro e; injection e with _ e2; omega)]; exact h.1.2.1
 ·exact World.cell?_setCell_same _ _ _ h.1.2.2
 ·refine ⟨?_, by rw [World.frozen?_setCell]; exact (h.2 j hj).2⟩
  by_cases e : j = 2
  ·subst e
   rw [show (0 + 2 : Nat) = 2 from rfl, World.cell?_setCell_same _ _ _ h.1.2.2]; rfl
  ·rw [World.cell?_setCell_other _ _ _ _ (by intro q; injection q with _ e2; omega)]; exact (h.2 j hj).1
theorem size_fault : (Try.prog.info? 67).map (·.size) = some 3 := by kernel_rfl
theorem zero_fault : (Try.prog.info? 67).map (fun i => (i.zero, i.size)) = some (some (fv f0), 3) := by kernel_rfl
theorem und_fault : ∃ d, Try.prog.underlying 67 = some d ∧ d.isRow = true := ⟨_, Try.underlying67, rfl⟩
theorem run_loadF {w : World} {b p : Nat} {f : Int × Bool × Value} (h : FlA w b p f) : (loadVar 67 ⟨b, p, none⟩).run Try.prog w = .ok (fv f) w := by
 obtain ⟨d, hu, hd⟩ := und_fault
 have := run_loadVar_mid (P := Try.prog) w b p 67 _ _ h.range hu hd (by rw [size_fault]; rfl)
 simpa [fv] using this
theorem load_fault {w : World} {b p : Nat} {f : Int × Bool × Value} (h : FlA w b p f) : (Instr.loadAt 67 (.pointer (some ⟨b, p, none⟩))).run Try.prog w = .ok (fv f) w := by
 simp only [Instr.loadAt, Instr.sureAddr, Sem.run_bind, Sem.run_pure, Result.andThen_ok, run_loadF h]
theorem results_flt {fn : Func} {p : Tmp} (h : fn.results = #[.cell p 67]) (tmps : Array Value) (w : World) (b : Nat) (f : Int × Bool × Value) (hp : tmps.getD p undef = .pointer (some ⟨b, 0, none⟩)) (ha : FlA w b 0 f) : (results fn tmps).run Try.prog w = .ok (fv f) w := by
 have hp' : tmps[p]?.getD undef = .pointer (some ⟨b, 0, none⟩) := by simpa using hp
 simp [results, h, hp', asAddr, run_loadF ha]
theorem results_fltB {fn : Func} {p q : Tmp} (h : fn.results = #[.cell p 67, .tmp q]) (tmps : Array Value) (w : World) (b : Nat) (f : Int × Bool × Value) (t : Bool) (hp : tmps.getD p undef = .pointer (some ⟨b, 0, none⟩)) (hq : tmps.getD q undef = .bool t) (ha : FlA w b 0 f) : (results fn tmps).run Try.prog w = .ok (.tuple #[fv f, .bool t]) w := by
 have hp' : tmps[p]?.getD undef = .pointer (some ⟨b, 0, none⟩) := by simpa using hp
 have hq' : tmps[q]?.getD undef = .bool t := by simpa using hq
 simp [results, h, hp', hq', asAddr, run_loadF ha]
section
variable {ops : Array Oper} {rest : List Oper} {a : Act} {Q : Exit → Act → World → Prop}
theorem load_lawS {d : Option Tmp} {t : TypeId} {x : Operand} {ty : TypeId} {pos : String} {af : Array Edge} {gd : Option (Nat × Bool)} (w : World) (hw : Region.wanted ⟨d, Op.load t x, ty, pos, af, gd⟩ (yielded ops a.tmps) = true) (p v : Value) (hx : a.eval x = p) (h : (Instr.loadAt t p).run Try.prog w = .ok v w)
  (hK : wpList Try.prog ops Q rest (a.put d v) w) : wpList Try.prog ops Q (⟨d, Op.load t x, ty, pos, af, gd⟩ :: rest) a w := by
 refine wpList_step fun K hK' => ?_
 rw [if_pos hw]
 unfold Oper.wp execOp
 simp only [hx, Sem.run_bind, Result.andThen_ok, h]
 exact hK' _ _ hK
theorem box_lawV {d : Option Tmp} {x : Operand} {ty : TypeId} {pos : String} {af : Array Edge} (w : World) (f : Int × Bool × Value) (hx : a.eval x = fv f)
  (hK : ∀ w', FlV w' w.heap.size f → Below w.heap.size w w' → w.heap.size < w'.heap.size → wpList Try.prog ops Q rest (a.put d (.pointer (some ⟨w.heap.size, 0, none⟩))) w') :
  wpList Try.prog ops Q (⟨d, Op.box 67 x, ty, pos, af, none⟩ :: rest) a w := by
 refine wpList_plain rfl fun K hK' => ?_
 unfold Oper.wp
 simp [execOp, hx, Instr.box, newVar, newRow, fv, Value.cells, Result.andThen]
 exact hK' _ _ (hK _ (FlV.new w f) ((Below.refl _ _).alloc (Nat.le_refl _) _) (by simp))
theorem new_lawV {d : Option Tmp} {ty : TypeId} {pos : String} {af : Array Edge} (w : World)
  (hK : ∀ w', FlV w' w.heap.size f0 → Below w.heap.size w w' → w.heap.size < w'.heap.size → wpList Try.prog ops Q rest (a.put d (.pointer (some ⟨w.heap.size, 0, none⟩))) w') :
  wpList Try.prog ops Q (⟨d, Op.alloc 67, ty, pos, af, none⟩ :: rest) a w := by
 refine wpList_plain rfl fun K hK' => ?_
 have hz' := (zero_of_info zero_fault).1
 unfold Oper.wp
 simp [execOp, Instr.alloc, hz', newVar, newRow, fv, Value.cells, Result.andThen]
 exact hK' _ _ (hK _ (FlV.new w f0) ((Below.refl _ _).alloc (Nat.le_refl _) _) (by simp))
theorem store_lawV {d : Option Tmp} {x y : Operand} {ty : TypeId} {pos : String} {af : Array Edge} (w : World) (f : Int × Bool × Value) (b p : Nat) (hx : a.eval x = .pointer (some ⟨b, p, none⟩)) (hy : a.eval y = fv f) (ht : w.there b p 3) (hm : f.2.2.oneCell' = true)
  (hK : ∀ w', Hid (w' = w.setCells b p (fl f)) → FlA w' b p f → w'.there b p 3 → Below b w w' → wpList Try.prog ops Q rest (a.put d undef) w') :
  wpList Try.prog ops Q (⟨d, Op.store 67 x y, ty, pos, af, none⟩ :: rest) a w := by
 refine wpList_store_mid rfl 67 x y rfl b p (fl f).toArray hx hy ht (by rw [size_fault]; rfl) (all_oneCell_toArray fun v hv => ?_) ?_
 ·simp [fl] at hv
  rcases hv with rfl | rfl | rfl
  ·rfl
  ·rfl
  ·exact hm
 ·exact hK _ rfl (FlA.of (World.rangeAt_setCells_same w b p (fl f) ht)) (World.there_setCells ht b p _) (below_cells _ (Nat.le_refl _) _ _ (Below.refl _ _))
end
end Go.Proofs.Ytikcohjhhoiakaa.fa
