/- What pagemap's Data and Drop answer. No claim of its own. -/
import Derived.Test.YtedmmpognhpbdaaJRt
import Derived.Test.YtedmmpognhpbdaaJNil
namespace Go.Proofs.Ytedmmpognhpbdaa.pm
open Go.RowKit Go.Proofs.Ytedmmpognhpbdaa.he
set_option maxRecDepth 20000

/-- how many sectors have data -/
def dc1 (f : Nat → Sp) : Nat → Nat
  | 0 => 0
  | t + 1 => dc1 f t + (if (f t).h.k = 1 then 1 else 0)
theorem dc1_le (f : Nat → Sp) : ∀ t, dc1 f t ≤ t
  | 0 => Nat.le_refl _
  | t + 1 => by
    unfold dc1
    have := dc1_le f t
    split <;> omega
/-- the places of a namespace's live sectors -/
def ld (f : Nat → Sp) : Nat → List PL
  | 0 => []
  | t + 1 => ld f t ++ (if lv (f t) = true then [(f t).p] else [])
theorem ld_len (f : Nat → Sp) : ∀ t, (ld f t).length ≤ t
  | 0 => Nat.le_refl _
  | t + 1 => by
    unfold ld
    have := ld_len f t
    rw [List.length_append]
    split <;> simp <;> omega
theorem sec_yes {d s : Nat → Nat} {i : Nat} (hi : i < 4) (hs : 0 < s i) : sec d s (i : Int) = .slice (some ⟨d i, 0, none⟩) (s i) (s i) := by
  unfold sec sv
  rw [if_pos (by omega), Int.toNat_natCast, if_neg (by omega)]
set_option maxHeartbeats 4000000 in
theorem data_yes (c : Nat) (rb : Option Nat) (d s : Nat → Nat) (f : Nat → Nat → Sp) (g : PL → Int) (i : Nat) (w : World) (hm : Pm w c d s f rb g) (hi : i < 4) (hs : 0 < s i) (hz : s i ≤ 65535) : Calls Try.prog 25 #[pt c, .int .i64 (i : Int)] w fun e w' => e = .returned (.int .i64 ((dc1 (f i) (s i) : Nat) : Int)) ∧ Below w.heap.size w w' := by
  have SS : Hid (Calls Try.prog 48 #[pt c, .int .i64 (i : Int)] w fun e w' => e = .returned (.slice (some ⟨d i, 0, none⟩) (s i) (s i)) ∧ w' = w) := by
    have q := sectors_any (pt c) d s f g (i : Int) w (.inr ⟨c, rb, rfl, hm⟩)
    rw [sec_yes hi hs] at q
    exact q
  have HM : Hid (Rw 14 Sp.cs w (d i) 0 (s i) (f i)) := hm.r i hi
  generalize d i = D at SS HM
  generalize hN : s i = n at SS HM hs hz ⊢
  have n9 : (n : Int) ≤ 65535 := by omega
  have n0 : 0 < n := hs
  clear hm hi hs hz hN
  go_enter Try.func25, Try.ntmps25
  go_wp2_with (go_at_call 48; refine SS.out.mono ?_; rintro e w3 ⟨rfl, hw⟩; obtain rfl := hw.symm)
  go_loopw [5, 12] (fun cv iv wr => ∃ t k : Nat, t ≤ n ∧ k ≤ t ∧ iv = .int .i64 t ∧ cv = .int .i64 k ∧ Hid (k = dc1 (f i) t) ∧ Hid (Below w.heap.size w wr)) (fun _ iv _ => n - (intOf iv).toNat)
  case atStart => exact ⟨0, 0, Nat.zero_le _, Nat.le_refl _, rfl, rfl, rfl, Below.refl _ _⟩
  case round =>
    obtain ⟨t, k, ht, hk, rfl, rfl, HK, HB⟩ := hrel
    have a0 : (0 : Int) ≤ (t : Int) := by omega
    have tw : IntKind.i64.wrap ((t : Int) + 1) = ((t + 1 : Nat) : Int) := by rw [IntKind.wrap_i64]; omega
    have kw : IntKind.i64.wrap ((k : Int) + 1) = ((k + 1 : Nat) : Int) := by rw [IntKind.wrap_i64]; omega
    by_cases hlt : t < n
    · have a1 : (t : Int) < (n : Int) := by omega
      obtain ⟨y, hy⟩ : ∃ y, y = f i t := ⟨_, rfl⟩
      have AY : Hid (At wr D (t * 14) y.cs) := by
        have z := (HM.out t hlt)
        rw [Nat.zero_add, ← hy] at z
        exact z.heap (HB.out.block D (z.lt (Nat.succ_pos _)))
      have t0 : (0 : Nat) = 0 := rfl
      by_cases hq : y.h.k = 1
      · have d3 : decide (y.h.k = 1) = true := decide_eq_true hq
        have d4 : (y.h.k == 1) = true := beq_iff_eq.2 hq
        have CC : Hid (k + 1 = dc1 (f i) (t + 1)) := by show _ = _; rw [dc1, ← hy, if_pos hq, HK.out]
        clear hq hy
        go_wp2_with (first
          | (have qq := t2; (with_reducible refine at_store ?_); refine store_lawC _ y.cs wr.heap.size 0 rfl rfl VZ.out.2 size_spot y.one ?_; intro w3 _ r3 h3 B3; have nk := kind_at (w := w3) (x := y) r3; have BN : Hid (Below wr.heap.size wr w3) := BN.out.trans B3; clear r3 h3 B3 VZ t2)
          | (have qq := t1; (with_reducible refine at_alloc ?_); refine new_lawC _ sp0.cs zero_spot ?_; intro w2 X2 B2 l2; have VZ : Hid (Vr w2 wr.heap.size sp0.cs) := X2; have BN : Hid (Below wr.heap.size wr w2) := B2; clear X2 B2 l2 t1; have t2 : (0 : Nat) = 0 := rfl)
          | (have qq := t0; refine load_law _ (by rfl) 37 (.tmp 14) rfl D (t * 14) y.cs rfl rowy_spot AY.out.1 ?_; clear t0; have t1 : (0 : Nat) = 0 := rfl))
        go_roundw
        case rel => exact ⟨t + 1, k + 1, by omega, by omega, by go_num, by go_num, CC, HB.out.trans (BN.out.mono HB.out.size)⟩
        case measure => simp [intOf]; omega
      · have d3 : decide (y.h.k = 1) = false := decide_eq_false hq
        have d4 : (y.h.k == 1) = false := beq_eq_false_iff_ne.2 hq
        have CC : Hid (k = dc1 (f i) (t + 1)) := by show _ = _; rw [dc1, ← hy, if_neg hq, HK.out, Nat.add_zero]
        clear hq hy
        go_wp2_with (first
          | (have qq := t2; (with_reducible refine at_store ?_); refine store_lawC _ y.cs wr.heap.size 0 rfl rfl VZ.out.2 size_spot y.one ?_; intro w3 _ r3 h3 B3; have nk := kind_at (w := w3) (x := y) r3; have BN : Hid (Below wr.heap.size wr w3) := BN.out.trans B3; clear r3 h3 B3 VZ t2)
          | (have qq := t1; (with_reducible refine at_alloc ?_); refine new_lawC _ sp0.cs zero_spot ?_; intro w2 X2 B2 l2; have VZ : Hid (Vr w2 wr.heap.size sp0.cs) := X2; have BN : Hid (Below wr.heap.size wr w2) := B2; clear X2 B2 l2 t1; have t2 : (0 : Nat) = 0 := rfl)
          | (have qq := t0; refine load_law _ (by rfl) 37 (.tmp 14) rfl D (t * 14) y.cs rfl rowy_spot AY.out.1 ?_; clear t0; have t1 : (0 : Nat) = 0 := rfl))
        go_roundw
        case rel => exact ⟨t + 1, k, by omega, by omega, by go_num, rfl, CC, HB.out.trans (BN.out.mono HB.out.size)⟩
        case measure => simp [intOf]; omega
    · have a1 : ¬ (t : Int) < (n : Int) := by omega
      obtain rfl : t = n := by omega
      go_wp2
      go_ret
      exact ⟨by rw [HK.out]; rfl, HB.out⟩
theorem data_any (c : Nat) (rb : Option Nat) (d s : Nat → Nat) (f : Nat → Nat → Sp) (g : PL → Int) (n : Int) (w : World) (hm : Pm w c d s f rb g) (hz : ∀ j, j < 4 → s j ≤ 65535) : Calls Try.prog 25 #[pt c, .int .i64 n] w fun e w' => e = .returned (.int .i64 ((dc1 (f n.toNat) (szn s n) : Nat) : Int)) ∧ Below w.heap.size w w' := by
  by_cases h : 0 < szn s n
  · obtain ⟨h1, h2, h3⟩ := szn_pos h
    obtain ⟨i, rfl⟩ : ∃ i : Nat, n = (i : Int) := ⟨n.toNat, by omega⟩
    rw [Int.toNat_natCast] at h3 ⊢
    rw [h3]
    exact data_yes c rb d s f g i w hm (by omega) (by omega) (hz i (by omega))
  · have e : szn s n = 0 := by omega
    rw [e]
    exact (data_none (pt c) d s f g n w (.inr ⟨c, rb, rfl, hm⟩) e).mono fun e w' ⟨h1, h2⟩ => ⟨h1, by rw [h2]; exact Below.refl _ _⟩
/-- where a Drop stands -/
structure Dd (w wr : World) (c b B : Nat) (d s : Nat → Nat) (f : Nat → Nat → Sp) (g : PL → Int) (v : Value) (l : List PL) : Prop where
  p : Pm wr c d s f (some b) g
  o : Os B wr v l
  ch : Ch (fun j => j = c ∨ j = b) w wr
  wB : w.heap.size ≤ B
  own : ∀ k, Own4 c d s (some b) k → k < w.heap.size
section
variable {w wr w' : World} {c b B i : Nat} {d s : Nat → Nat} {f : Nat → Nat → Sp} {g g' : PL → Int} {v v' : Value} {l l' : List PL}
theorem Dd.blt (h : Dd w wr c b B d s f g v l) : b < w.heap.size := h.own b (.inr (.inr rfl))
theorem Dd.clt (h : Dd w wr c b B d s f g v l) : c < w.heap.size := h.own c (.inl rfl)
theorem Dd.below (h : Dd w wr c b B d s f g v l) (hb : Below wr.heap.size wr w') : Dd w w' c b B d s f g v l :=
  ⟨h.p.below hb, h.o.below hb, h.ch.trans (Ch.of_below hb), h.wB, h.own⟩
theorem Dd.mp (h : Dd w wr c b B d s f g v l) (hg : wr.grownBy w' (some b)) (hM : Mp w' b g') : Dd w w' c b B d s f g' v l :=
  ⟨h.p.mp hg hM, h.o.ch (Ch.of_grown (P := fun k => k = b) hg rfl) (fun k hk e => by have := h.o.low hk; have := h.blt; have := h.wB; omega), h.ch.trans (Ch.of_grown hg (.inr rfl)), h.wB, h.own⟩
theorem Dd.push (h : Dd w wr c b B d s f g v l) (hg : wr.grownBy w' v.ownBlock) (ho : Os B w' v' l') : Dd w w' c b B d s f g v' l' := by
  obtain ⟨G, cap, rfl, h1⟩ := h.o
  have hB := (ow_row h1).2.1
  have hg' : wr.grownBy w' (some G) := hg
  have hw := h.wB
  exact ⟨h.p.ch (Ch.of_grown (P := fun k => k = G) hg' rfl) (fun k hk e => by have := h.own k hk; omega), ho, h.ch.join (Ch.of_grown (P := fun k => k = G) hg' rfl) (fun k hk e => by omega), h.wB, h.own⟩
theorem mc_cut (d s : Nat → Nat) (rb : Option Nat) (hi : i < 4) : (mc d s rb).set i (.slice none 0 0) = mc d (up s i 0) rb := by
  rcases four hi with rfl | rfl | rfl | rfl <;> rfl
theorem Pm.cut {rb : Option Nat} (h : Pm wr c d s f rb g) (hi : i < 4) (hr : rb ≠ none) (hg : wr.grownBy w' (some c)) (hV : Vr w' c ((mc d s rb).set i (.slice none 0 0))) : Pm w' c d (up s i 0) f rb g where
  v := by rw [← mc_cut d s rb hi]; exact hV
  r j hj := by
    by_cases e : j = i
    · subst e
      rw [up_eq]
      intro t ht
      exact absurd ht (Nat.not_lt_zero _)
    · rw [up_ne _ _ e]
      intro t ht
      exact (h.r j hj t ht).heap (hg.block _ (h.dlt hj (by omega)) (fun e' => h.dc j hj (by omega) (Option.some.inj e')))
  m b' e := (h.m b' e).heap (hg.block b' (h.m b' e).lt (fun e' => h.rbc e (Option.some.inj e')))
  z e := absurd e hr
  dc j hj hs := h.dc j hj (by
    by_cases e : j = i
    · subst e; rw [up_eq] at hs; omega
    · rwa [up_ne _ _ e] at hs)
  dd j k hj hk hn hs ht := h.dd j k hj hk hn (by
    by_cases e : j = i
    · subst e; rw [up_eq] at hs; omega
    · rwa [up_ne _ _ e] at hs) (by
    by_cases e : k = i
    · subst e; rw [up_eq] at ht; omega
    · rwa [up_ne _ _ e] at ht)
theorem own_cut {rb : Option Nat} {k : Nat} (h : Own4 c d (up s i 0) rb k) : Own4 c d s rb k := by
  rcases h with h | ⟨j, hj, hs, h⟩ | h
  · exact .inl h
  · by_cases e : j = i
    · subst e; rw [up_eq] at hs; omega
    · rw [up_ne _ _ e] at hs; exact .inr (.inl ⟨j, hj, hs, h⟩)
  · exact .inr (.inr h)
theorem Dd.cut (h : Dd w wr c b B d s f g v l) (hi : i < 4) (hg : wr.grownBy w' (some c)) (hV : Vr w' c ((mc d s (some b)).set i (.slice none 0 0))) : Dd w w' c b B d (up s i 0) f g v l :=
  ⟨h.p.cut hi (fun e => by cases e) hg hV, h.o.ch (Ch.of_grown (P := fun k => k = c) hg rfl) (fun k hk e => by have := h.o.low hk; have := h.clt; have := h.wB; omega), h.ch.trans (Ch.of_grown hg (.inl rfl)), h.wB, fun k hk => h.own k (own_cut hk)⟩
end
/-- the counts while a namespace is left -/
def gt (s : Nat → Nat) (f : Nat → Nat → Sp) (i t : Nat) : PL → Int := fun p => cnt s f p - cn1 (f i) p t
theorem gt_zero (s : Nat → Nat) (f : Nat → Nat → Sp) (i : Nat) : gt s f i 0 = cnt s f := by
  funext p
  unfold gt cn1
  omega
theorem gt_same {s : Nat → Nat} {f : Nat → Nat → Sp} {i t : Nat} (h : lv (f i t) = false) : gt s f i (t + 1) = gt s f i t := by
  funext p
  unfold gt
  rw [cn1, h]
  simp
theorem gt_left {s : Nat → Nat} {f : Nat → Nat → Sp} {i t : Nat} (h : lv (f i t) = true) : ud (gt s f i t) (f i t).p (gt s f i t (f i t).p - 1) = gt s f i (t + 1) := by
  funext p
  unfold ud gt
  rw [cn1, h]
  by_cases e : p = (f i t).p
  · subst e
    simp
    omega
  · rw [if_neg e]
    simp [Ne.symm e]
theorem cn1_mono (f : Nat → Sp) (p : PL) (t : Nat) : ∀ n, t ≤ n → cn1 f p t ≤ cn1 f p n
  | 0, h => by rw [show t = 0 by omega]; exact Int.le_refl _
  | n + 1, h => by
    by_cases e : t = n + 1
    · rw [e]; exact Int.le_refl _
    · have := cn1_mono f p t n (by omega)
      have e2 : cn1 f p (n + 1) = cn1 f p n + (if lv (f n) && decide ((f n).p = p) then 1 else 0) := rfl
      rw [e2]
      split <;> omega
theorem cnt_cut (s : Nat → Nat) (f : Nat → Nat → Sp) (i : Nat) (hi : i < 4) (p : PL) : cnt (up s i 0) f p = cnt s f p - cn1 (f i) p (s i) := by
  rcases four hi with rfl | rfl | rfl | rfl <;> (unfold cnt up; simp only [if_true, Nat.zero_ne_one, Nat.one_ne_zero, if_false, show (0 : Nat) ≠ 2 by omega, show (0 : Nat) ≠ 3 by omega, show (1 : Nat) ≠ 2 by omega, show (1 : Nat) ≠ 3 by omega, show (2 : Nat) ≠ 0 by omega, show (2 : Nat) ≠ 1 by omega, show (2 : Nat) ≠ 3 by omega, show (3 : Nat) ≠ 0 by omega, show (3 : Nat) ≠ 1 by omega, show (3 : Nat) ≠ 2 by omega, cn1]; omega)
theorem cn1_cnt (s : Nat → Nat) (f : Nat → Nat → Sp) (i : Nat) (hi : i < 4) (p : PL) : cn1 (f i) p (s i) ≤ cnt s f p := by
  have h := cnt_cut s f i hi p
  have h0 := (cn1_le (f 0) p (up s i 0 0)).1
  have h1 := (cn1_le (f 1) p (up s i 0 1)).1
  have h2 := (cn1_le (f 2) p (up s i 0 2)).1
  have h3 := (cn1_le (f 3) p (up s i 0 3)).1
  have e : cnt (up s i 0) f p = cn1 (f 0) p (up s i 0 0) + cn1 (f 1) p (up s i 0 1) + cn1 (f 2) p (up s i 0 2) + cn1 (f 3) p (up s i 0 3) := rfl
  omega
theorem gt_end (s : Nat → Nat) (f : Nat → Nat → Sp) (i : Nat) (hi : i < 4) : gt s f i (s i) = cnt (up s i 0) f := by
  funext p
  rw [cnt_cut s f i hi p]
  rfl
theorem gt_bound {s : Nat → Nat} {f : Nat → Nat → Sp} {i t : Nat} (hi : i < 4) (ht : t < s i) (hz : ∀ j, j < 4 → s j ≤ 65535) (hl : lv (f i t) = true) : 1 ≤ gt s f i t (f i t).p ∧ gt s f i t (f i t).p ≤ 1000000 := by
  have h1 := cnt_le hz f (f i t).p
  have h2 := cn1_le (f i) (f i t).p t
  have h3 := cn1_mono (f i) (f i t).p (t + 1) (s i) ht
  have h4 := cn1_cnt s f i hi (f i t).p
  have h5 : cn1 (f i) (f i t).p (t + 1) = cn1 (f i) (f i t).p t + 1 := by rw [cn1, hl]; simp
  unfold gt
  omega
set_option maxHeartbeats 8000000 in
theorem drop_yes (c b : Nat) (d s : Nat → Nat) (f : Nat → Nat → Sp) (i : Nat) (w : World) (hm : Pm w c d s f (some b) (cnt s f)) (hi : i < 4) (hs : 0 < s i) (hz : ∀ j, j < 4 → s j ≤ 65535) : Calls Try.prog 22 #[pt c, .int .i64 (i : Int)] w fun e w' => ∃ v R, e = .returned (.tuple #[v, .int .i64 0]) ∧ Pls w' v R ∧ St (cnt (up s i 0) f) (ld (f i) (s i)) R ∧ Pm w' c d (up s i 0) f (some b) (cnt (up s i 0) f) ∧ Ch (fun j => j = c ∨ j = b) w w' := by
  have SS : Hid (Calls Try.prog 48 #[pt c, .int .i64 (i : Int)] w fun e w' => e = .returned (.slice (some ⟨d i, 0, none⟩) (s i) (s i)) ∧ w' = w) := by
    have q := sectors_any (pt c) d s f (cnt s f) (i : Int) w (.inr ⟨c, some b, rfl, hm⟩)
    rw [sec_yes hi hs] at q
    exact q
  have H4 : Hid (i < 4) := hi
  have HZ : Hid (∀ j, j < 4 → s j ≤ 65535) := hz
  have HM : Hid (Pm w c d s f (some b) (gt s f i 0)) := by rw [gt_zero]; exact hm
  obtain ⟨D, hD⟩ : ∃ D, D = d i := ⟨_, rfl⟩
  obtain ⟨n, hn⟩ : ∃ n, n = s i := ⟨_, rfl⟩
  have DD : Hid (D = d i) := hD
  have NN : Hid (n = s i) := hn
  rw [← hD, ← hn] at SS
  have n9 : (n : Int) ≤ 65535 := by have := hz i hi; omega
  have n0 : ((n : Int) == 0) = false := beq_eq_false_iff_ne.2 (by omega)
  have n1 : decide ((n : Int) = 0) = false := decide_eq_false (by omega)
  have i4 : (i : Int) < 4 := by omega
  have i0 : (0 : Int) ≤ (i : Int) := by omega
  clear hm hi hs hz hD hn
  have t0 : (0 : Nat) = 0 := rfl
  go_enter Try.func22, Try.ntmps22
  go_wp2_with (first
    | (have qq := t1; refine nil_lawP _ rfl rfl ?_; intro w2 O9 B9 _; have O2 : Hid (Ow w.heap.size w2 (.slice (some ⟨w.heap.size, 0, none⟩) 0 0) []) := O9; have B2 : Hid (Below w.heap.size w w2) := B9; clear O9 B9 t1)
    | (have qq := t0; go_at_call 48; refine SS.out.mono ?_; rintro e w3 ⟨rfl, hw⟩; obtain rfl := hw.symm; clear t0; have t1 : (0 : Nat) = 0 := rfl))
  have HD : Hid (Dd w w2 c b w.heap.size d s f (gt s f i 0) (.slice (some ⟨w.heap.size, 0, none⟩) 0 0) (ld (f i) 0)) := ⟨HM.out.below B2.out, Os.nil O2.out, Ch.of_below B2.out, Nat.le_refl _, fun k hk => HM.out.olt hk⟩
  clear HM O2 B2 SS
  go_loopw [7, 19] (fun lv tv wr => ∃ (t : Nat) (v : Value), t ≤ n ∧ tv = .int .i64 t ∧ lv = v ∧ Hid (Dd w wr c b w.heap.size d s f (gt s f i t) v (ld (f i) t))) (fun _ tv _ => n - (intOf tv).toNat)
  case atStart => exact ⟨0, _, Nat.zero_le _, rfl, rfl, HD⟩
  case round =>
    clear HD
    obtain ⟨t, v, ht, rfl, hv9, HD⟩ := hrel
    obtain rfl := hv9.symm
    have a0 : (0 : Int) ≤ (t : Int) := by omega
    have tw : IntKind.i64.wrap ((t : Int) + 1) = ((t + 1 : Nat) : Int) := by rw [IntKind.wrap_i64]; omega
    by_cases hlt : t < n
    · have a1 : (t : Int) < (n : Int) := by omega
      have HT : Hid (t < n) := hlt
      obtain ⟨y, hy⟩ : ∃ y, y = f i t := ⟨_, rfl⟩
      have YF : Hid (y = f i t) := hy
      have AY : Hid (At wr D (t * 14) y.cs) := by
        have z := HD.out.p.r i H4.out t (by have := NN.out; omega)
        rw [Nat.zero_add, ← hy, ← DD.out] at z
        exact z
      have WS : Hid (w.heap.size ≤ wr.heap.size) := HD.out.ch.size
      clear hlt hy
      have t0 : (0 : Nat) = 0 := rfl
      cases hv : lv y with
      | false =>
        have SI : Hid (∀ W, Calls Try.prog 45 #[.agg y.cs.toArray] W fun e w' => e = .returned (.bool false) ∧ Below W.heap.size W w') := fun W => by rw [← hv]; exact isspot_any y W
        have GS : Hid (gt s f i (t + 1) = gt s f i t) := gt_same (by rw [← YF.out]; exact hv)
        have LF : Hid (ld (f i) (t + 1) = ld (f i) t) := by show _ = _; rw [ld, ← YF.out, hv]; simp
        clear hv
        go_wp2_with (first
          | (have qq := t4; go_at_call 45; refine (SI.out _).mono ?_; rintro e w4 ⟨rfl, B9⟩; have BN : Hid (Below wr.heap.size wr w4) := BN.out.trans (B9.mono BN.out.size); clear B9 VW t4)
          | (have qq := t3; refine load_law _ (by rfl) 37 (.tmp 9) rfl wr.heap.size 0 y.cs rfl rowy_spot VW.out.1 ?_; clear t3; have t4 : (0 : Nat) = 0 := rfl)
          | (have qq := t2; (with_reducible refine at_store ?_); refine store_lawC _ y.cs wr.heap.size 0 rfl rfl VZ.out.2 size_spot y.one ?_; intro w3 _ r3 h3 B3; have VW : Hid (Vr w3 wr.heap.size y.cs) := ⟨r3, h3⟩; have BN : Hid (Below wr.heap.size wr w3) := BN.out.trans B3; clear r3 h3 B3 VZ t2; have t3 : (0 : Nat) = 0 := rfl)
          | (have qq := t1; (with_reducible refine at_alloc ?_); refine new_lawC _ sp0.cs zero_spot ?_; intro w2 X2 B2 l2; have VZ : Hid (Vr w2 wr.heap.size sp0.cs) := X2; have BN : Hid (Below wr.heap.size wr w2) := B2; clear X2 B2 l2 t1; have t2 : (0 : Nat) = 0 := rfl)
          | (have qq := t0; refine load_law _ (by rfl) 37 (.tmp 21) rfl D (t * 14) y.cs rfl rowy_spot AY.out.1 ?_; clear t0; have t1 : (0 : Nat) = 0 := rfl))
        go_roundw
        case rel => exact ⟨t + 1, v, by have := HT.out; omega, by go_num, rfl, by rw [GS.out, LF.out]; exact HD.out.below BN.out⟩
        case measure => simp [intOf]; have := HT.out; omega
      | true =>
        have SI : Hid (∀ W, Calls Try.prog 45 #[.agg y.cs.toArray] W fun e w' => e = .returned (.bool true) ∧ Below W.heap.size W w') := fun W => by rw [← hv]; exact isspot_any y W
        have GS : Hid (ud (gt s f i t) y.p (gt s f i t y.p - 1) = gt s f i (t + 1)) := by show _ = _; rw [YF.out]; exact gt_left (by rw [← YF.out]; exact hv)
        have GB : Hid (1 ≤ gt s f i t y.p ∧ gt s f i t y.p ≤ 1000000) := by rw [YF.out]; exact gt_bound H4.out (by have := NN.out; have := HT.out; omega) HZ.out (by rw [← YF.out]; exact hv)
        have LF : Hid (ld (f i) (t + 1) = ld (f i) t ++ [y.p]) := by show _ = _; rw [ld, ← YF.out, hv]; simp
        have LN : Hid ((ld (f i) t).length ≤ 100000) := by have := ld_len (f i) t; have := HT.out; show _ ≤ _; omega
        clear hv
        go_wp2_with (first
          | (have qq := t9; refine push_lawO _ rfl (.tmp 29) (.tmp 32) rfl w.heap.size (Nat.le_trans WS.out WT.out) v (ld (f i) t) w5.heap.size y.p rfl rfl HD.out.o VL.out LN.out ?_; intro v9 w7 O9 G9; have O8 : Hid (Os w.heap.size w7 v9 (ld (f i) (t + 1))) := (by rw [← LF.out] at O9; exact O9); have HD : Hid (Dd w w7 c b w.heap.size d s f (gt s f i (t + 1)) v9 (ld (f i) (t + 1))) := HD.out.push G9 O8.out; clear O9 O8 G9 VL VW t9)
          | (have qq := t8; refine one_lawP _ rfl (.tmp 31) y.p rfl rfl ?_; intro w6 X9 B9 l9; have VL : Hid (Vr w6 w5.heap.size (pc y.p)) := X9; have WT : Hid (wr.heap.size ≤ w6.heap.size) := Nat.le_trans WT.out B9.size; have HD : Hid (Dd w w6 c b w.heap.size d s f (gt s f i (t + 1)) v (ld (f i) t)) := HD.out.below B9; clear X9 B9 l9 t8; have t9 : (0 : Nat) = 0 := rfl)
          | (have qq := t7; refine load_law _ (by rfl) 31 (.tmp 30) rfl wr.heap.size 0 (pc y.p) rfl rowy_place (place_at VW.out.1) ?_; clear t7; have t8 : (0 : Nat) = 0 := rfl)
          | (have qq := t6; go_at_call 46; refine (leave_any c b _ y.p _ (HD.out.p.v.cell 4 _ rfl) (HD.out.p.m b rfl) GB.out.1 GB.out.2).mono ?_; rintro e w5 ⟨rfl, M9, G9⟩; have HD : Hid (Dd w w5 c b w.heap.size d s f (gt s f i (t + 1)) v (ld (f i) t)) := HD.out.mp G9 (by rw [← GS.out]; exact M9); have VW : Hid (Vr w5 wr.heap.size y.cs) := VW.out.heap (G9.block _ (range_lt VW.out.1 (Nat.succ_pos _)) (fun e => by have := HD.out.blt; have := WS.out; have := Option.some.inj e; omega)); have WT : Hid (wr.heap.size ≤ w5.heap.size) := Nat.le_of_lt (range_lt VW.out.1 (Nat.succ_pos _)); clear M9 G9 t6; have t7 : (0 : Nat) = 0 := rfl)
          | (have qq := t5; refine load_law _ (by rfl) 31 (.tmp 26) rfl wr.heap.size 0 (pc y.p) rfl rowy_place (place_at VW.out.1) ?_; clear t5; have t6 : (0 : Nat) = 0 := rfl)
          | (have qq := t4; go_at_call 45; refine (SI.out _).mono ?_; rintro e w4 ⟨rfl, B9⟩; have VW : Hid (Vr w4 wr.heap.size y.cs) := VW.out.below B9 (range_lt VW.out.1 (Nat.succ_pos _)); have HD : Hid (Dd w w4 c b w.heap.size d s f (gt s f i t) v (ld (f i) t)) := HD.out.below (BN.out.trans (B9.mono BN.out.size)); clear B9 BN t4; have t5 : (0 : Nat) = 0 := rfl)
          | (have qq := t3; refine load_law _ (by rfl) 37 (.tmp 9) rfl wr.heap.size 0 y.cs rfl rowy_spot VW.out.1 ?_; clear t3; have t4 : (0 : Nat) = 0 := rfl)
          | (have qq := t2; (with_reducible refine at_store ?_); refine store_lawC _ y.cs wr.heap.size 0 rfl rfl VZ.out.2 size_spot y.one ?_; intro w3 _ r3 h3 B3; have VW : Hid (Vr w3 wr.heap.size y.cs) := ⟨r3, h3⟩; have BN : Hid (Below wr.heap.size wr w3) := BN.out.trans B3; clear r3 h3 B3 VZ t2; have t3 : (0 : Nat) = 0 := rfl)
          | (have qq := t1; (with_reducible refine at_alloc ?_); refine new_lawC _ sp0.cs zero_spot ?_; intro w2 X2 B2 l2; have VZ : Hid (Vr w2 wr.heap.size sp0.cs) := X2; have BN : Hid (Below wr.heap.size wr w2) := B2; clear X2 B2 l2 t1; have t2 : (0 : Nat) = 0 := rfl)
          | (have qq := t0; refine load_law _ (by rfl) 37 (.tmp 21) rfl D (t * 14) y.cs rfl rowy_spot AY.out.1 ?_; clear t0; have t1 : (0 : Nat) = 0 := rfl))
        go_roundw
        case rel => exact ⟨t + 1, v9, by have := HT.out; omega, by go_num, rfl, HD⟩
        case measure => simp [intOf]; have := HT.out; omega
    · have a1 : ¬ (t : Int) < (n : Int) := by omega
      obtain rfl : t = n := by omega
      have GE : Hid (gt s f i t = cnt (up s i 0) f) := by rw [NN.out]; exact gt_end s f i H4.out
      rw [GE.out] at HD
      have t0 : (0 : Nat) = 0 := rfl
      go_wp2_with (first
        | (have qq := t1; go_at_call 47; refine (stale_any w.heap.size c d (up s i 0) f (some b) (cnt (up s i 0) f) v (ld (f i) t) _ HD.out.p HD.out.o (by have := ld_len (f i) t; omega) (fun k hk ho => by have := HD.out.own k ho; have := HD.out.o.low hk; omega)).mono ?_; rintro e w9 ⟨v', R, rfl, P9, S9, C9⟩; have HP : Hid (Pls w9 v' R) := P9; have HS : Hid (St (cnt (up s i 0) f) (ld (f i) t) R) := S9; have HR : Hid (Pm w9 c d (up s i 0) f (some b) (cnt (up s i 0) f)) := HD.out.p.ch C9 (fun k hk hb => by have := HD.out.own k hk; have := HD.out.o.low hb; omega); have HC : Hid (Ch (fun j => j = c ∨ j = b) w w9) := HD.out.ch.join C9 (fun k hk hb => by have := HD.out.o.low hb; omega); clear P9 S9 C9 t1)
        | (have qq := t0; (with_reducible refine at_store ?_); refine set_law1 _ rfl (.tmp 39) (.const (.slice none 0 0)) 47 rfl (mc d s (some b)) c i (.slice none 0 0) rfl rfl HD.out.p.v (by have := H4.out; show i < 5; omega) rfl rfl sz_store ?_; intro w8 X9 G9; have HD : Hid (Dd w w8 c b w.heap.size d (up s i 0) f (cnt (up s i 0) f) v (ld (f i) t)) := HD.out.cut H4.out G9 X9; clear X9 G9 t0; have t1 : (0 : Nat) = 0 := rfl))
      go_ret2
      exact ⟨v', R, rfl, HP.out, by rw [← NN.out]; exact HS.out, HR.out, HC.out⟩
end Go.Proofs.Ytedmmpognhpbdaa.pm
