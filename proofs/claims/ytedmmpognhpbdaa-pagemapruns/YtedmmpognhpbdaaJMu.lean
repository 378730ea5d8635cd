/- The program's sectors and the reference's cells, held against each other. What a Put and a Move leave, of the program's sectors and of the reference's cells. No claim of its own. -/
import Derived.Test.YtedmmpognhpbdaaJM3
namespace Go.Proofs.Ytedmmpognhpbdaa.pm
open Go.RowKit Go.Proofs.Ytedmmpognhpbdaa.he
set_option maxRecDepth 20000

/-- the cells L are the live sectors of f -/
structure Rel (s : Nat → Nat) (f : Nat → Nat → Sp) (L : List Ce) : Prop where
  inn : ∀ c ∈ L, ∃ i j : Nat, i < 4 ∧ j < s i ∧ c = ⟨i, j, f i j⟩ ∧ lv (f i j) = true
  all : ∀ i j : Nat, i < 4 → j < s i → lv (f i j) = true → (⟨i, j, f i j⟩ : Ce) ∈ L
  nod : L.Pairwise (fun a b => ¬ (a.n = b.n ∧ a.l = b.l))
  ded : ∀ i j : Nat, i < 4 → j < s i → lv (f i j) = false → f i j = sp0
theorem Rel.nil (s : Nat → Nat) (f : Nat → Nat → Sp) (h : ∀ i, i < 4 → s i = 0) : Rel s f [] :=
  ⟨fun c hc => by simp at hc, fun i j hi hj _ => by have := h i hi; omega, List.Pairwise.nil, fun i j hi hj _ => by have := h i hi; omega⟩
def cs1 (i : Nat) (f : Nat → Sp) : Nat → List Ce
  | 0 => []
  | t + 1 => cs1 i f t ++ (if lv (f t) = true then [⟨i, t, f t⟩] else [])
theorem cs1_mem (i : Nat) (f : Nat → Sp) (c : Ce) : ∀ n, c ∈ cs1 i f n ↔ ∃ j, j < n ∧ lv (f j) = true ∧ c = ⟨i, j, f j⟩
  | 0 => by simp [cs1]
  | n + 1 => by
    unfold cs1
    rw [List.mem_append, cs1_mem i f c n]
    constructor
    · rintro (⟨j, h1, h2, h3⟩ | h)
      · exact ⟨j, by omega, h2, h3⟩
      · split at h
        · rename_i hv
          rw [List.mem_singleton] at h
          exact ⟨n, by omega, hv, h⟩
        · simp at h
    · rintro ⟨j, h1, h2, h3⟩
      by_cases e : j = n
      · subst e
        right
        rw [if_pos h2, List.mem_singleton]
        exact h3
      · exact .inl ⟨j, by omega, h2, h3⟩
theorem cs1_nod (i : Nat) (f : Nat → Sp) : ∀ n, (cs1 i f n).Nodup
  | 0 => List.Pairwise.nil
  | n + 1 => by
    unfold cs1
    rw [List.nodup_append]
    refine ⟨cs1_nod i f n, by split <;> simp, fun a ha b hb => ?_⟩
    split at hb
    · rw [List.mem_singleton] at hb
      rw [cs1_mem] at ha
      obtain ⟨j, h1, _, h3⟩ := ha
      rw [h3, hb]
      intro e
      injection e with _ e2
      omega
    · simp at hb
theorem cs1_cn (i : Nat) (f : Nat → Sp) (p : PL) : ∀ n, (((cs1 i f n).countP (atp p) : Nat) : Int) = cn1 f p n
  | 0 => rfl
  | n + 1 => by
    unfold cs1
    rw [List.countP_append, Int.natCast_add, cs1_cn i f p n, cn1_more]
    congr 1
    unfold lc
    cases hv : lv (f n) with
    | false => simp
    | true => by_cases e : (f n).p = p <;> simp [atp, e]
theorem cs1_dc (i : Nat) (f : Nat → Sp) : ∀ n, (cs1 i f n).countP (fun c => decide (c.s.h.k = 1)) = dc1 f n
  | 0 => rfl
  | n + 1 => by
    unfold cs1 dc1
    rw [List.countP_append, cs1_dc i f n]
    congr 1
    by_cases e : (f n).h.k = 1
    · have hv : lv (f n) = true := by unfold lv lk; rw [e]; rfl
      simp [hv, e]
    · cases hv : lv (f n) with
      | false => simp [e]
      | true => simp [e]
def all4 (s : Nat → Nat) (f : Nat → Nat → Sp) : List Ce := cs1 0 (f 0) (s 0) ++ (cs1 1 (f 1) (s 1) ++ (cs1 2 (f 2) (s 2) ++ cs1 3 (f 3) (s 3)))
theorem all4_mem (s : Nat → Nat) (f : Nat → Nat → Sp) (c : Ce) : c ∈ all4 s f ↔ ∃ i j : Nat, i < 4 ∧ j < s i ∧ lv (f i j) = true ∧ c = ⟨i, j, f i j⟩ := by
  unfold all4
  simp only [List.mem_append, cs1_mem]
  constructor
  · rintro (⟨j, h1, h2, h3⟩ | ⟨j, h1, h2, h3⟩ | ⟨j, h1, h2, h3⟩ | ⟨j, h1, h2, h3⟩)
    · exact ⟨0, j, by omega, h1, h2, h3⟩
    · exact ⟨1, j, by omega, h1, h2, h3⟩
    · exact ⟨2, j, by omega, h1, h2, h3⟩
    · exact ⟨3, j, by omega, h1, h2, h3⟩
  · rintro ⟨i, j, hi, h1, h2, h3⟩
    rcases four hi with rfl | rfl | rfl | rfl
    · exact .inl ⟨j, h1, h2, h3⟩
    · exact .inr (.inl ⟨j, h1, h2, h3⟩)
    · exact .inr (.inr (.inl ⟨j, h1, h2, h3⟩))
    · exact .inr (.inr (.inr ⟨j, h1, h2, h3⟩))
theorem cs1_ne {i k : Nat} {f g : Nat → Sp} {n m : Nat} (h : i ≠ k) {a b : Ce} (ha : a ∈ cs1 i f n) (hb : b ∈ cs1 k g m) : a ≠ b := by
  rw [cs1_mem] at ha hb
  obtain ⟨j, _, _, h3⟩ := ha
  obtain ⟨j', _, _, h3'⟩ := hb
  rw [h3, h3']
  intro e
  injection e with e1
  omega
theorem all4_nod (s : Nat → Nat) (f : Nat → Nat → Sp) : (all4 s f).Nodup := by
  unfold all4
  rw [List.nodup_append]
  refine ⟨cs1_nod _ _ _, ?_, fun a ha b hb => ?_⟩
  · rw [List.nodup_append]
    refine ⟨cs1_nod _ _ _, ?_, fun a ha b hb => ?_⟩
    · rw [List.nodup_append]
      exact ⟨cs1_nod _ _ _, cs1_nod _ _ _, fun a ha b hb => cs1_ne (by omega) ha hb⟩
    · rcases List.mem_append.1 hb with hb | hb
      · exact cs1_ne (by omega) ha hb
      · exact cs1_ne (by omega) ha hb
  · rcases List.mem_append.1 hb with hb | hb
    · exact cs1_ne (by omega) ha hb
    · rcases List.mem_append.1 hb with hb | hb
      · exact cs1_ne (by omega) ha hb
      · exact cs1_ne (by omega) ha hb
theorem Rel.perm {s : Nat → Nat} {f : Nat → Nat → Sp} {L : List Ce} (h : Rel s f L) : L.Perm (all4 s f) := by
  refine (List.perm_ext_iff_of_nodup (h.nod.imp (fun {a b} hn e => hn (by rw [e]; exact ⟨rfl, rfl⟩))) (all4_nod s f)).2 fun c => ?_
  rw [all4_mem]
  constructor
  · intro hc
    obtain ⟨i, j, h1, h2, h3, h4⟩ := h.inn c hc
    exact ⟨i, j, h1, h2, h4, h3⟩
  · rintro ⟨i, j, h1, h2, h3, h4⟩
    rw [h4]
    exact h.all i j h1 h2 h3
theorem Rel.refs {s : Nat → Nat} {f : Nat → Nat → Sp} {L : List Ce} (h : Rel s f L) (p : PL) : ((L.countP (atp p) : Nat) : Int) = cnt s f p := by
  rw [h.perm.countP_eq]
  unfold all4 cnt
  rw [List.countP_append, List.countP_append, List.countP_append, Int.natCast_add, Int.natCast_add, Int.natCast_add, cs1_cn, cs1_cn, cs1_cn, cs1_cn]
  omega
theorem dat_cs1 (i : Nat) (f : Nat → Sp) (n : Nat) (k : Int) : (cs1 i f n).countP (dat k) = if (i : Int) = k then dc1 f n else 0 := by
  by_cases e : (i : Int) = k
  · rw [if_pos e, ← cs1_dc i f n]
    refine List.countP_congr fun c hc => ?_
    rw [cs1_mem] at hc
    obtain ⟨j, _, _, h3⟩ := hc
    rw [h3]
    simp [dat, e]
  · rw [if_neg e, List.countP_eq_zero]
    intro c hc
    rw [cs1_mem] at hc
    obtain ⟨j, _, _, h3⟩ := hc
    rw [h3]
    simp [dat, e]
theorem Rel.data {s : Nat → Nat} {f : Nat → Nat → Sp} {L : List Ce} (h : Rel s f L) (n : Int) : L.countP (dat n) = dc1 (f n.toNat) (szn s n) := by
  rw [h.perm.countP_eq]
  unfold all4
  rw [List.countP_append, List.countP_append, List.countP_append, dat_cs1, dat_cs1, dat_cs1, dat_cs1]
  unfold szn
  by_cases hn : 0 ≤ n ∧ n < 4
  · rw [if_pos hn]
    obtain ⟨k, rfl⟩ : ∃ k : Nat, n = (k : Int) := ⟨n.toNat, by omega⟩
    rw [Int.toNat_natCast]
    rcases four (show k < 4 by omega) with rfl | rfl | rfl | rfl <;> simp
  · rw [if_neg hn, if_neg (by omega), if_neg (by omega), if_neg (by omega), if_neg (by omega)]
    rfl
theorem Rel.len {s : Nat → Nat} {f : Nat → Nat → Sp} {L : List Ce} (h : Rel s f L) : L.length ≤ s 0 + s 1 + s 2 + s 3 := by
  have e : ∀ i (f : Nat → Sp) n, (cs1 i f n).length ≤ n := by
    intro i f n
    induction n with
    | zero => exact Nat.le_refl _
    | succ n ih =>
      unfold cs1
      rw [List.length_append]
      split <;> simp <;> omega
  rw [h.perm.length_eq]
  unfold all4
  rw [List.length_append, List.length_append, List.length_append]
  have := e 0 (f 0) (s 0)
  have := e 1 (f 1) (s 1)
  have := e 2 (f 2) (s 2)
  have := e 3 (f 3) (s 3)
  omega
/-- strictly in order -/
def Srt (l : List PL) : Prop := l.Pairwise (fun a b => ltp a b = true)
theorem ltp_iff (a b : PL) : ltp a b = true ↔ (a.1 < b.1 ∨ (a.1 = b.1 ∧ a.2 < b.2)) := by simp [ltp]
theorem ltp_no (a b : PL) : ltp a b = false ↔ ¬ (a.1 < b.1 ∨ (a.1 = b.1 ∧ a.2 < b.2)) := by
  rw [← ltp_iff]; simp
theorem ltp_eq {a b : PL} (h1 : ltp a b = false) (h2 : ltp b a = false) : a = b := by
  rw [ltp_no] at h1 h2
  exact Prod.ext (by omega) (by omega)
theorem srt_one {l k : List PL} (h1 : Srt l) (h2 : Srt k) (h : ∀ p, p ∈ l ↔ p ∈ k) : l = k := by
  have irr : ∀ {a b : PL}, ltp a b = true → a ≠ b := fun {a b} h e => by subst e; rw [ltp_iff] at h; omega
  have hp : l.Perm k := (List.perm_ext_iff_of_nodup (h1.imp irr) (h2.imp irr)).2 h
  refine List.Perm.eq_of_pairwise (fun a b _ _ ha hb => ?_) h1 h2 hp
  rw [ltp_iff] at ha hb
  omega
theorem ins_mem (p x : PL) : ∀ l, x ∈ ins p l ↔ x = p ∨ x ∈ l
  | [] => by simp [ins]
  | q :: t => by
    unfold ins
    split
    · rw [List.mem_cons, ins_mem p x t, List.mem_cons]
      constructor
      · rintro (h | h | h)
        · exact .inr (.inl h)
        · exact .inl h
        · exact .inr (.inr h)
      · rintro (h | h | h)
        · exact .inr (.inl h)
        · exact .inl h
        · exact .inr (.inr h)
    · simp
theorem ins_srt (p : PL) : ∀ l, Srt l → p ∉ l → Srt (ins p l)
  | [], _, _ => by simp [ins, Srt]
  | q :: t, h, hp => by
    have h1 := List.pairwise_cons.1 h
    unfold ins
    split
    · rename_i hq
      refine List.pairwise_cons.2 ⟨fun x hx => ?_, ins_srt p t h1.2 (fun z => hp (List.mem_cons_of_mem _ z))⟩
      rw [ins_mem] at hx
      rcases hx with rfl | hx
      · exact hq
      · exact h1.1 x hx
    · rename_i hq
      have hpq : ltp p q = true := by
        cases e : ltp p q with
        | true => rfl
        | false => exact absurd (ltp_eq e (by simpa using hq)) (fun z => hp (by rw [z]; exact List.mem_cons_self))
      refine List.pairwise_cons.2 ⟨fun x hx => ?_, h⟩
      rcases List.mem_cons.1 hx with rfl | hx
      · exact hpq
      · have := h1.1 x hx
        rw [ltp_iff] at hpq this ⊢
        omega
theorem fold_gst (L2 : List Ce) : ∀ (L : List Ce) (l : List PL), Srt l → Srt (L.foldl (fun l c => gst L2 l c.s.p) l) ∧ ∀ p, p ∈ L.foldl (fun l c => gst L2 l c.s.p) l ↔ p ∈ l ∨ (¬ 0 < L2.countP (atp p) ∧ ∃ c ∈ L, c.s.p = p)
  | [], l, h => ⟨h, fun p => by simp⟩
  | c :: t, l, h => by
    have hs : Srt (gst L2 l c.s.p) ∧ ∀ p, p ∈ gst L2 l c.s.p ↔ p ∈ l ∨ (¬ 0 < L2.countP (atp p) ∧ c.s.p = p) := by
      unfold gst
      by_cases e : 0 < L2.countP (atp c.s.p) ∨ c.s.p ∈ l
      · rw [if_pos e]
        refine ⟨h, fun p => ⟨fun hp => .inl hp, fun hp => ?_⟩⟩
        rcases hp with hp | ⟨hp, rfl⟩
        · exact hp
        · exact e.resolve_left hp
      · rw [if_neg e]
        refine ⟨ins_srt _ _ h (fun z => e (.inr z)), fun p => ?_⟩
        rw [ins_mem]
        constructor
        · rintro (rfl | hp)
          · exact .inr ⟨fun z => e (.inl z), rfl⟩
          · exact .inl hp
        · rintro (hp | ⟨_, rfl⟩)
          · exact .inr hp
          · exact .inl rfl
    have z := fold_gst L2 t (gst L2 l c.s.p) hs.1
    refine ⟨z.1, fun p => ?_⟩
    rw [List.foldl_cons, z.2 p, hs.2 p]
    constructor
    · rintro ((h1 | ⟨h1, h2⟩) | ⟨h1, d, h2, h3⟩)
      · exact .inl h1
      · exact .inr ⟨h1, c, List.mem_cons_self, h2⟩
      · exact .inr ⟨h1, d, List.mem_cons_of_mem _ h2, h3⟩
    · rintro (h1 | ⟨h1, d, h2, h3⟩)
      · exact .inl (.inl h1)
      · rcases List.mem_cons.1 h2 with rfl | h2
        · exact .inl (.inr ⟨h1, h3⟩)
        · exact .inr ⟨h1, d, h2, h3⟩
theorem gn_srt (L2 L : List Ce) : Srt (gn L2 L) := (fold_gst L2 L [] List.Pairwise.nil).1
theorem gn_mem (L2 L : List Ce) (p : PL) : p ∈ gn L2 L ↔ (¬ 0 < L2.countP (atp p) ∧ ∃ c ∈ L, c.s.p = p) := by
  have := (fold_gst L2 L [] List.Pairwise.nil).2 p
  unfold gn
  rw [this]
  simp only [List.not_mem_nil, false_or]
theorem dn_all {L : List PL} (hs : L.Pairwise (fun a b => ltp b a = false)) : ∀ n, n ≤ L.length → Srt (dn L n) ∧ ∀ p, p ∈ dn L n ↔ p ∈ L.take n
  | 0, _ => ⟨List.Pairwise.nil, fun p => by simp [dn]⟩
  | n + 1, hn => by
    have z := dn_all hs n (by omega)
    have hx : L[n]? = some L[n] := List.getElem?_eq_getElem hn
    have ht : L.take (n + 1) = L.take n ++ [L[n]] := take_more hx
    rw [dn, getD_of hx]
    by_cases h0 : 0 < n ∧ L[n] = L.getD (n - 1) (0, 0)
    · rw [if_pos h0]
      refine ⟨z.1, fun p => ?_⟩
      rw [z.2 p, ht, List.mem_append, List.mem_singleton]
      refine ⟨fun h => .inl h, fun h => h.elim id fun e => ?_⟩
      have h1 : L[n - 1]? = some L[n - 1] := List.getElem?_eq_getElem (by omega)
      rw [getD_of h1] at h0
      rw [e, h0.2]
      exact List.mem_take_iff_getElem.2 ⟨n - 1, by omega, rfl⟩
    · rw [if_neg h0]
      refine ⟨?_, fun p => by rw [List.mem_append, z.2 p, ht, List.mem_append]⟩
      refine List.pairwise_append.2 ⟨z.1, List.pairwise_singleton _ _, fun a ha b hb => ?_⟩
      rw [List.mem_singleton] at hb
      subst hb
      rw [z.2 a] at ha
      obtain ⟨i, hi, rfl⟩ := List.mem_take_iff_getElem.1 ha
      have hin : i < n := by omega
      have pw := List.pairwise_iff_getElem.1 hs
      have h1 : L[n - 1]? = some L[n - 1] := List.getElem?_eq_getElem (by omega)
      rw [getD_of h1] at h0
      have h2 : ltp L[n] L[i] = false := pw i n (by omega) (by omega) hin
      have h3 : ¬ L[n] = L[n - 1] := fun e => h0 ⟨by omega, e⟩
      cases h4 : ltp L[i] L[n] with
      | true => rfl
      | false =>
        exfalso
        have e := ltp_eq h4 h2
        by_cases e5 : i = n - 1
        · subst e5; exact h3 e.symm
        · have h6 : ltp L[n - 1] L[i] = false := pw i (n - 1) (by omega) (by omega) (by omega)
          have h7 : ltp L[n] L[n - 1] = false := pw (n - 1) n (by omega) (by omega) (by omega)
          rw [e] at h6
          exact h3 (ltp_eq h7 h6)
/-- what stale answers is what the reference's gone does -/
theorem st_gn {s : Nat → Nat} {f : Nat → Nat → Sp} {L L2 : List Ce} {l R : List PL} (h : Rel s f L2) (hl : ∀ p, ¬ 0 < cnt s f p → (p ∈ l ↔ ∃ c ∈ L, c.s.p = p)) (hR : St (cnt s f) l R) : R = gn L2 L := by
  obtain ⟨L', hp, hs, rfl⟩ := hR
  have z := dn_all hs L'.length (Nat.le_refl _)
  refine srt_one z.1 (gn_srt L2 L) fun p => ?_
  rw [z.2 p, List.take_length, hp.mem_iff, List.mem_filter, gn_mem]
  have hr := h.refs p
  have e : (0 < L2.countP (atp p)) ↔ 0 < cnt s f p := by rw [← hr]; omega
  rw [e]
  constructor
  · rintro ⟨h1, h2⟩
    have h3 : ¬ 0 < cnt s f p := by simpa using h2
    exact ⟨h3, (hl p h3).1 h1⟩
  · rintro ⟨h1, h2⟩
    exact ⟨(hl p h1).2 h2, by simpa using h1⟩
theorem Rel.add {s : Nat → Nat} {f : Nat → Nat → Sp} {L : List Ce} (h : Rel s f L) {i n : Nat} (hs : s i = 0) : Rel (up s i n) (up f i (fun _ => sp0)) L := by
  refine ⟨fun c hc => ?_, fun k j hk hj hv => ?_, h.nod, fun k j hk hj hv => ?_⟩
  · obtain ⟨k, j, h1, h2, h3, h4⟩ := h.inn c hc
    have e : k ≠ i := fun e => by subst e; omega
    exact ⟨k, j, h1, by rw [up_ne _ _ e]; exact h2, by rw [up_ne _ _ e]; exact h3, by rw [up_ne _ _ e]; exact h4⟩
  · by_cases e : k = i
    · subst e
      rw [up_eq] at hv
      cases hv
    · rw [up_ne _ _ e] at hj hv ⊢
      exact h.all k j hk hj hv
  · by_cases e : k = i
    · subst e; rw [up_eq]
    · rw [up_ne _ _ e] at hj hv ⊢
      exact h.ded k j hk hj hv
theorem Rel.drop {s : Nat → Nat} {f : Nat → Nat → Sp} {L : List Ce} (h : Rel s f L) (i : Nat) : Rel (up s i 0) f (L.filter (nin i)) := by
  refine ⟨fun c hc => ?_, fun k j hk hj hv => ?_, h.nod.filter _, fun k j hk hj hv => ?_⟩
  · rw [List.mem_filter] at hc
    obtain ⟨k, j, h1, h2, h3, h4⟩ := h.inn c hc.1
    have e : k ≠ i := fun e => by
      subst e
      have := hc.2
      rw [h3] at this
      simp [nin] at this
    exact ⟨k, j, h1, by rw [up_ne _ _ e]; exact h2, h3, h4⟩
  · by_cases e : k = i
    · subst e; rw [up_eq] at hj; omega
    · rw [up_ne _ _ e] at hj
      rw [List.mem_filter]
      refine ⟨h.all k j hk hj hv, ?_⟩
      have : ¬ (k : Int) = (i : Int) := by omega
      simp [nin, this]
  · by_cases e : k = i
    · subst e; rw [up_eq] at hj; omega
    · rw [up_ne _ _ e] at hj
      exact h.ded k j hk hj hv
theorem ld_mem (f : Nat → Sp) (p : PL) : ∀ n, p ∈ ld f n ↔ ∃ j, j < n ∧ lv (f j) = true ∧ (f j).p = p
  | 0 => by simp [ld]
  | n + 1 => by
    unfold ld
    rw [List.mem_append, ld_mem f p n]
    constructor
    · rintro (⟨j, h1, h2, h3⟩ | h)
      · exact ⟨j, by omega, h2, h3⟩
      · split at h
        · rename_i hv
          rw [List.mem_singleton] at h
          exact ⟨n, by omega, hv, h.symm⟩
        · simp at h
    · rintro ⟨j, h1, h2, h3⟩
      by_cases e : j = n
      · subst e
        right
        rw [if_pos h2, List.mem_singleton]
        exact h3.symm
      · exact .inl ⟨j, by omega, h2, h3⟩
theorem cnt_live {s : Nat → Nat} {f : Nat → Nat → Sp} {i j : Nat} (hi : i < 4) (hj : j < s i) (hv : lv (f i j) = true) : 0 < cnt s f (f i j).p := by
  have := cnt_pos f hi hj hv
  omega
/-- Drop's answer -/
theorem drop_gn {s : Nat → Nat} {f : Nat → Nat → Sp} {L : List Ce} {i : Nat} {R : List PL} (h : Rel s f L) (hi : i < 4) (hR : St (cnt (up s i 0) f) (ld (f i) (s i)) R) : R = gn (L.filter (nin i)) L := by
  refine st_gn (h.drop i) (fun p hp => ?_) hR
  rw [ld_mem]
  constructor
  · rintro ⟨j, h1, h2, h3⟩
    exact ⟨_, h.all i j hi h1 h2, h3⟩
  · rintro ⟨c, hc, he⟩
    obtain ⟨k, j, h1, h2, h3, h4⟩ := h.inn c hc
    rw [h3] at he
    by_cases e : k = i
    · subst e; exact ⟨j, h2, h4, he⟩
    · exfalso
      apply hp
      rw [← he]
      exact cnt_live (s := up s i 0) h1 (by rw [up_ne _ _ e]; exact h2) h4
end Go.Proofs.Ytedmmpognhpbdaa.pm
namespace Go.Proofs.Ytedmmpognhpbdaa.pm
open Go.RowKit Go.Proofs.Ytedmmpognhpbdaa.he

theorem plc_le (n l : Int) : ∀ (L : List Ce) (k : Nat), (plc n l L k = -1 ∧ ∀ c ∈ L, ¬ (c.n = n ∧ c.l = l)) ∨ ∃ (j : Nat) (c : Ce), L[j]? = some c ∧ c.n = n ∧ c.l = l ∧ plc n l L k = ((k + j : Nat) : Int)
  | [], k => .inl ⟨rfl, fun c hc => by simp at hc⟩
  | c :: t, k => by
    unfold plc
    by_cases e : c.n = n ∧ c.l = l
    · rw [if_pos e]
      exact .inr ⟨0, c, rfl, e.1, e.2, rfl⟩
    · rw [if_neg e]
      rcases plc_le n l t (k + 1) with ⟨h1, h2⟩ | ⟨j, d, h1, h2, h3, h4⟩
      · refine .inl ⟨h1, fun d hd => ?_⟩
        rcases List.mem_cons.1 hd with rfl | hd
        · exact e
        · exact h2 d hd
      · exact .inr ⟨j + 1, d, by simpa using h1, h2, h3, by rw [h4]; omega⟩
theorem plc_neg {n l : Int} {L : List Ce} : plc n l L 0 < 0 ↔ ∀ c ∈ L, ¬ (c.n = n ∧ c.l = l) := by
  rcases plc_le n l L 0 with ⟨h1, h2⟩ | ⟨j, c, h1, h2, h3, h4⟩
  · exact ⟨fun _ => h2, fun _ => by rw [h1]; omega⟩
  · exact ⟨fun h => by omega, fun h => absurd ⟨h2, h3⟩ (h c (List.mem_of_getElem? h1))⟩
theorem Rel.plc {s : Nat → Nat} {f : Nat → Nat → Sp} {L : List Ce} (h : Rel s f L) {i j : Nat} (hi : i < 4) (hj : j < s i) : plc i j L 0 < 0 ↔ lv (f i j) = false := by
  rw [plc_neg]
  constructor
  · intro hn
    cases hv : lv (f i j) with
    | false => rfl
    | true => exact absurd ⟨rfl, rfl⟩ (hn _ (h.all i j hi hj hv))
  · intro hv c hc e
    obtain ⟨a, b, _, _, h3, h4⟩ := h.inn c hc
    rw [h3] at e
    have e1 : a = i := by have := e.1; simp at this; omega
    have e2 : b = j := by have := e.2; simp at this; omega
    subst e1; subst e2
    rw [hv] at h4
    cases h4
/-- the sector's cell -/
theorem Rel.cell {s : Nat → Nat} {f : Nat → Nat → Sp} {L : List Ce} (h : Rel s f L) (n k : Int) : (lv (gs s f n k) = false ∧ gs s f n k = sp0 ∧ Go.Proofs.Ytedmmpognhpbdaa.pm.plc n k L 0 < 0) ∨ ∃ (j : Nat) (c : Ce), lv (gs s f n k) = true ∧ L[j]? = some c ∧ c.s = gs s f n k ∧ Go.Proofs.Ytedmmpognhpbdaa.pm.plc n k L 0 = (j : Int) := by
  rcases plc_le n k L 0 with ⟨h1, h2⟩ | ⟨j, c, h1, h2, h3, h4⟩
  · left
    have e : lv (gs s f n k) = false ∧ gs s f n k = sp0 := by
      unfold gs
      by_cases hk : 0 ≤ k ∧ k < szn s n
      · rw [if_pos hk]
        obtain ⟨q1, q2, q3⟩ := szn_pos (s := s) (n := n) (by omega)
        have hv : lv (f n.toNat k.toNat) = false := by
          cases hv : lv (f n.toNat k.toNat) with
          | false => rfl
          | true =>
            refine absurd ⟨?_, ?_⟩ (h2 _ (h.all n.toNat k.toNat (by omega) (by omega) hv))
            · show ((n.toNat : Nat) : Int) = n; omega
            · show ((k.toNat : Nat) : Int) = k; omega
        exact ⟨hv, h.ded _ _ (by omega) (by omega) hv⟩
      · rw [if_neg hk]
        exact ⟨rfl, rfl⟩
    exact ⟨e.1, e.2, by rw [h1]; omega⟩
  · right
    obtain ⟨a, b, g1, g2, g3, g4⟩ := h.inn c (List.mem_of_getElem? h1)
    have e1 : n = (a : Int) := by rw [← h2, g3]
    have e2 : k = (b : Int) := by rw [← h3, g3]
    have e3 : gs s f n k = f a b := by
      subst e1; subst e2
      unfold gs szn
      rw [if_pos (show 0 ≤ (a : Int) ∧ (a : Int) < 4 by omega), Int.toNat_natCast, Int.toNat_natCast, if_pos (by omega)]
    refine ⟨j, c, by rw [e3]; exact g4, h1, by rw [e3, g3], by rw [h4, Nat.zero_add]⟩
theorem spk_iff {i l k a j : Nat} {y : Sp} : spk i l k ⟨a, j, y⟩ = true ↔ a = i ∧ l ≤ j ∧ j < l + k := by
  unfold spk
  simp only [Bool.and_eq_true, decide_eq_true_eq]
  omega
theorem pnew_mem (i l : Nat) (x : Sp) (L : List Ce) (c : Ce) : ∀ t, c ∈ pnew i l x L t ↔ ∃ u, u < t ∧ plc i ((l + u : Nat) : Int) L 0 < 0 ∧ c = ⟨i, ((l + u : Nat) : Int), x⟩
  | 0 => by simp [pnew]
  | t + 1 => by
    unfold pnew
    rw [List.mem_append, pnew_mem i l x L c t]
    constructor
    · rintro (⟨u, h1, h2, h3⟩ | h)
      · exact ⟨u, by omega, h2, h3⟩
      · split at h
        · rename_i hv
          rw [List.mem_singleton] at h
          exact ⟨t, by omega, hv, h⟩
        · simp at h
    · rintro ⟨u, h1, h2, h3⟩
      by_cases e : u = t
      · subst e
        right
        rw [if_pos h2, List.mem_singleton]
        exact h3
      · exact .inl ⟨u, by omega, h2, h3⟩
theorem pnew_nod (i l : Nat) (x : Sp) (L : List Ce) : ∀ t, (pnew i l x L t).Pairwise (fun a b => ¬ (a.n = b.n ∧ a.l = b.l))
  | 0 => List.Pairwise.nil
  | t + 1 => by
    unfold pnew
    refine List.pairwise_append.2 ⟨pnew_nod i l x L t, by split <;> simp, fun a ha b hb e => ?_⟩
    split at hb
    · rw [List.mem_singleton] at hb
      rw [pnew_mem] at ha
      obtain ⟨u, h1, _, h3⟩ := ha
      have := e.2
      rw [h3, hb] at this
      simp at this
      omega
    · simp at hb
theorem ptC_key (i l k : Nat) (x : Sp) (c : Ce) : (ptC i l k x c).n = c.n ∧ (ptC i l k x c).l = c.l := by
  unfold ptC
  split <;> exact ⟨rfl, rfl⟩
theorem pn_live {x y : Sp} (hx : lv x = true) : lv (pn x y) = true := by
  unfold pn
  split
  · rename_i h
    simp at h
    exact h.1
  · exact hx
theorem pn_dead {x y : Sp} (h : lv y = false) : pn x y = x := by simp [pn, h]
theorem ft_in {f : Nat → Sp} {x : Sp} {l k j : Nat} (h : l ≤ j ∧ j < l + k) : ft f x l k j = pn x (f j) := by
  unfold ft
  rw [if_pos h]
theorem ft_out {f : Nat → Sp} {x : Sp} {l k j : Nat} (h : ¬ (l ≤ j ∧ j < l + k)) : ft f x l k j = f j := by
  unfold ft
  rw [if_neg h]
/-- a cell behind a Put tells the sector's spot -/
theorem pt_cell {f : Nat → Nat → Sp} {i l k a j : Nat} {x : Sp} (hv : lv (f a j) = true) : ptC i l k x ⟨a, j, f a j⟩ = ⟨a, j, up f i (ft (f i) x l k) a j⟩ := by
  by_cases e : a = i ∧ l ≤ j ∧ j < l + k
  · obtain ⟨rfl, h⟩ := e
    rw [up_eq, ft_in h]
    have hs : spk a l k ⟨a, j, f a j⟩ = true := spk_iff.2 ⟨rfl, h⟩
    cases hw : nw x (f a j) with
    | true =>
      rw [ptC_yes hs hw]
      simp [pn, hw]
    | false =>
      rw [ptC_old (c := ⟨a, j, f a j⟩) hw]
      simp [pn, hw, hv]
  · have hs : spk i l k ⟨a, j, f a j⟩ = false := by
      cases h : spk i l k ⟨a, j, f a j⟩ with
      | false => rfl
      | true => exact absurd (spk_iff.1 h) e
    rw [ptC_no hs]
    by_cases ea : a = i
    · subst ea
      rw [up_eq, ft_out (fun h => e ⟨rfl, h⟩)]
    · rw [up_ne _ _ ea]
theorem Rel.put {s : Nat → Nat} {f : Nat → Nat → Sp} {L : List Ce} (h : Rel s f L) {i l k : Nat} {x : Sp} (hi : i < 4) (hx : lv x = true) (hb : l + k ≤ s i) : Rel s (up f i (ft (f i) x l k)) (L.map (ptC i l k x) ++ pnew i l x L k) := by
  refine ⟨fun c hc => ?_, fun a j ha hj hv => ?_, ?_, fun a j ha hj hv => ?_⟩
  · rcases List.mem_append.1 hc with hc | hc
    · rw [List.mem_map] at hc
      obtain ⟨c0, h0, rfl⟩ := hc
      obtain ⟨a, j, h1, h2, rfl, h4⟩ := h.inn c0 h0
      refine ⟨a, j, h1, h2, pt_cell h4, ?_⟩
      by_cases e : a = i
      · subst e
        rw [up_eq]
        by_cases e2 : l ≤ j ∧ j < l + k
        · rw [ft_in e2]; exact pn_live hx
        · rw [ft_out e2]; exact h4
      · rw [up_ne _ _ e]; exact h4
    · rw [pnew_mem] at hc
      obtain ⟨u, h1, h2, h3⟩ := hc
      have hd : lv (f i (l + u)) = false := (h.plc hi (by omega)).1 h2
      have e : up f i (ft (f i) x l k) i (l + u) = x := by rw [up_eq, ft_in ⟨by omega, by omega⟩, pn_dead hd]
      exact ⟨i, l + u, hi, by omega, by rw [e]; exact h3, by rw [e]; exact hx⟩
  · by_cases hf : lv (f a j) = true
    · refine List.mem_append.2 (.inl (List.mem_map.2 ⟨_, h.all a j ha hj hf, pt_cell hf⟩))
    · have hd : lv (f a j) = false := by simpa using hf
      by_cases e : a = i ∧ l ≤ j ∧ j < l + k
      · obtain ⟨rfl, e2⟩ := e
        refine List.mem_append.2 (.inr ?_)
        rw [pnew_mem]
        refine ⟨j - l, by omega, ?_, ?_⟩
        · rw [show l + (j - l) = j by omega]; exact (h.plc ha hj).2 hd
        · rw [show l + (j - l) = j by omega, up_eq, ft_in e2, pn_dead hd]
      · exfalso
        by_cases ea : a = i
        · subst ea
          rw [up_eq, ft_out (fun z => e ⟨rfl, z⟩)] at hv
          exact hf hv
        · rw [up_ne _ _ ea] at hv
          exact hf hv
  · refine List.pairwise_append.2 ⟨?_, pnew_nod i l x L k, fun a ha b hb e => ?_⟩
    · rw [List.pairwise_map]
      exact h.nod.imp fun {a b} hn e => hn (by rw [(ptC_key i l k x a).1, (ptC_key i l k x b).1, (ptC_key i l k x a).2, (ptC_key i l k x b).2] at e; exact e)
    · rw [List.mem_map] at ha
      obtain ⟨c0, h0, rfl⟩ := ha
      rw [(ptC_key i l k x c0).1, (ptC_key i l k x c0).2] at e
      rw [pnew_mem] at hb
      obtain ⟨u, _, h2, h3⟩ := hb
      rw [h3] at e
      exact plc_neg.1 h2 c0 h0 e
  · by_cases e : a = i
    · subst e
      rw [up_eq] at hv ⊢
      by_cases e2 : l ≤ j ∧ j < l + k
      · rw [ft_in e2] at hv
        rw [pn_live hx] at hv
        cases hv
      · rw [ft_out e2] at hv ⊢
        exact h.ded a j ha hj hv
    · rw [up_ne _ _ e] at hv ⊢
      exact h.ded a j ha hj hv
theorem lf_mem (f : Nat → Sp) (x : Sp) (l : Nat) (p : PL) : ∀ t, p ∈ lf f x l t ↔ ∃ u, u < t ∧ lv (f (l + u)) = true ∧ nw x (f (l + u)) = true ∧ (f (l + u)).p = p
  | 0 => by simp [lf]
  | t + 1 => by
    unfold lf
    rw [List.mem_append, lf_mem f x l p t]
    constructor
    · rintro (⟨u, h1, h2⟩ | h)
      · exact ⟨u, by omega, h2⟩
      · split at h
        · rename_i hv
          rw [List.mem_singleton] at h
          rw [Bool.and_eq_true] at hv
          exact ⟨t, by omega, hv.1, hv.2, h.symm⟩
        · simp at h
    · rintro ⟨u, h1, h2, h3, h4⟩
      by_cases e : u = t
      · subst e
        right
        rw [if_pos (by rw [h2, h3]; rfl), List.mem_singleton]
        exact h4.symm
      · exact .inl ⟨u, by omega, h2, h3, h4⟩
/-- Put's answer -/
theorem put_gn {s : Nat → Nat} {f : Nat → Nat → Sp} {L : List Ce} {i l k : Nat} {x : Sp} {R : List PL} (h : Rel s f L) (hi : i < 4) (hx : lv x = true) (hb : l + k ≤ s i) (hR : St (cnt s (up f i (ft (f i) x l k))) (lf (f i) x l k) R) : R = gn (L.map (ptC i l k x) ++ pnew i l x L k) L := by
  refine st_gn (h.put hi hx hb) (fun p hp => ?_) hR
  rw [lf_mem]
  constructor
  · rintro ⟨u, h1, h2, h3, h4⟩
    exact ⟨_, h.all i (l + u) hi (by omega) h2, h4⟩
  · rintro ⟨c, hc, he⟩
    obtain ⟨a, j, h1, h2, h3, h4⟩ := h.inn c hc
    rw [h3] at he
    by_cases e : (a = i ∧ l ≤ j ∧ j < l + k) ∧ nw x (f a j) = true
    · obtain ⟨⟨rfl, e2, e3⟩, e4⟩ := e
      exact ⟨j - l, by omega, by rw [show l + (j - l) = j by omega]; exact h4, by rw [show l + (j - l) = j by omega]; exact e4, by rw [show l + (j - l) = j by omega]; exact he⟩
    · exfalso
      apply hp
      have ee : up f i (ft (f i) x l k) a j = f a j := by
        by_cases ea : a = i
        · subst ea
          rw [up_eq]
          by_cases e2 : l ≤ j ∧ j < l + k
          · rw [ft_in e2]
            have hn : nw x (f a j) = false := by
              cases hq : nw x (f a j) with
              | false => rfl
              | true => exact absurd ⟨⟨rfl, e2⟩, hq⟩ e
            simp [pn, hn, h4]
          · rw [ft_out e2]
        · rw [up_ne _ _ ea]
      have := cnt_live (s := s) (f := up f i (ft (f i) x l k)) h1 h2 (by rw [ee]; exact h4)
      rw [ee] at this
      rw [← he]
      exact this
theorem FF_in {p q : PL} {o : Hd} {f : Nat → Nat → Sp} {s : Nat → Nat} {a j : Nat} (ha : a < 4) (hj : j < s a) : FF p q o f s 4 a j = mvL p q o (f a j) := by
  unfold FF
  rw [if_pos ha]
  unfold mvF
  rw [if_pos hj]
theorem Rel.move {s : Nat → Nat} {f : Nat → Nat → Sp} {L : List Ce} (h : Rel s f L) (p q : PL) (o : Hd) : Rel s (FF p q o f s 4) (L.map (mvC p q o)) := by
  refine ⟨fun c hc => ?_, fun a j ha hj hv => ?_, ?_, fun a j ha hj hv => ?_⟩
  · rw [List.mem_map] at hc
    obtain ⟨c0, h0, rfl⟩ := hc
    obtain ⟨a, j, h1, h2, rfl, h4⟩ := h.inn c0 h0
    refine ⟨a, j, h1, h2, ?_, by rw [FF_in h1 h2, lv_mv]; exact h4⟩
    rw [FF_in h1 h2]
    unfold mvL mvC
    rw [if_pos h4]
  · rw [FF_in ha hj] at hv ⊢
    rw [lv_mv] at hv
    refine List.mem_map.2 ⟨_, h.all a j ha hj hv, ?_⟩
    unfold mvL mvC
    rw [if_pos hv]
  · rw [List.pairwise_map]
    exact h.nod.imp fun {a b} hn e => hn e
  · rw [FF_in ha hj] at hv ⊢
    rw [lv_mv] at hv
    rw [h.ded a j ha hj hv]
    rfl
/-- where nothing is at p, Move changes no cell -/
theorem mv_none {s : Nat → Nat} {f : Nat → Nat → Sp} {L : List Ce} (h : Rel s f L) {p q : PL} {o : Hd} (hp : cnt s f p = 0) : L.map (mvC p q o) = L := by
  have : ∀ c ∈ L, mvC p q o c = c := fun c hc => by
    refine mvC_no fun e => ?_
    obtain ⟨a, j, h1, h2, h3, h4⟩ := h.inn c hc
    have := cnt_live (s := s) h1 h2 h4
    rw [h3] at e
    rw [show (f a j).p = p from e] at this
    omega
  exact (List.map_congr_left this).trans (List.map_id' L)
end Go.Proofs.Ytedmmpognhpbdaa.pm
