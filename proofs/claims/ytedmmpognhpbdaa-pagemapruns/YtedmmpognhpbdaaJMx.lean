/- What a sector has at last, in whatever order spots come; two maps side by side. No claim of its own. -/
import Derived.Test.YtedmmpognhpbdaaJOpn
namespace Go.Proofs.Ytedmmpognhpbdaa.pm
open Go.RowKit Go.Proofs.Ytedmmpognhpbdaa.he
set_option maxRecDepth 20000

/-- a spot speaks of sector j of n -/
def cov (n : Nat) (x : Sp) (j : Nat) : Prop := lk x.h.k = true ∧ 1 ≤ x.h.c ∧ x.h.l + x.h.c ≤ n ∧ x.h.l ≤ j ∧ (j : Int) < x.h.l + x.h.c
/-- y is the newest of those in S that speak of j -/
def Mx (n : Nat) (q : Nat → Sp) (S : Nat → Prop) (j : Nat) (y : Sp) : Prop := (y = sp0 ∧ ∀ i, S i → ¬ cov n (q i) j) ∨ ∃ i, S i ∧ cov n (q i) j ∧ y = q i ∧ ∀ k, S k → cov n (q k) j → k = i ∨ hl (q k).h (q i).h = true
def Unl (m : Nat) (q : Nat → Sp) : Prop := ∀ i k, i < m → k < m → i ≠ k → ¬ ((q i).h.e = (q k).h.e ∧ (q i).h.t = (q k).h.t)
theorem hl_iff (a b : Hd) : hl a b = true ↔ (a.e < b.e ∨ (a.e = b.e ∧ a.t < b.t)) := by
  unfold hl
  by_cases h : a.e = b.e
  · rw [if_pos h]; simp; omega
  · rw [if_neg h]; simp; omega
theorem hl_no (a b : Hd) : hl a b = false ↔ ¬ (a.e < b.e ∨ (a.e = b.e ∧ a.t < b.t)) := by
  rw [← hl_iff]
  cases hl a b <;> simp
theorem lv_sp0 : lv sp0 = false := rfl
theorem pn_new (x : Sp) : pn x sp0 = x := by simp [pn, lv_sp0]
theorem nw_self (x : Sp) : nw x x = false := by
  have h1 : hl x.h x.h = false := (hl_no _ _).2 (by omega)
  have h2 : hl x.o x.o = false := (hl_no _ _).2 (by omega)
  unfold nw
  rw [h1, h2]
  rfl
theorem mx_step {n m : Nat} {q : Nat → Sp} (hu : Unl m q) {S : Nat → Prop} (hS : ∀ i, S i → i < m) {j r : Nat} {y z : Sp} (h : Mx n q S j y) (hr : r < m) (hz : (cov n (q r) j ∧ z = pn (q r) y) ∨ (¬ cov n (q r) j ∧ z = y)) : Mx n q (fun i => S i ∨ i = r) j z := by
  rcases hz with ⟨hc, rfl⟩ | ⟨hc, rfl⟩
  · rcases h with ⟨rfl, hn⟩ | ⟨i, hi, hci, rfl, hm⟩
    · right
      refine ⟨r, .inr rfl, hc, pn_new _, fun k hk hck => ?_⟩
      rcases hk with hk | hk
      · exact absurd hck (hn k hk)
      · exact .inl hk
    · right
      have hl1 : lv (q i) = true := hci.1
      by_cases e : r = i
      · subst e
        refine ⟨r, .inl hi, hci, by simp [pn, nw_self, hl1], fun k hk hck => ?_⟩
        rcases hk with hk | hk
        · exact hm k hk hck
        · exact .inl hk
      · have hne := hu r i hr (hS i hi) e
        by_cases hlt : hl (q i).h (q r).h = true
        · have hn : nw (q r) (q i) = true := by unfold nw; rw [hlt]; rfl
          refine ⟨r, .inr rfl, hc, by simp [pn, hn], fun k hk hck => ?_⟩
          rcases hk with hk | hk
          · rcases hm k hk hck with rfl | hkl
            · exact .inr hlt
            · right
              rw [hl_iff] at hkl hlt ⊢
              omega
          · exact .inl hk
        · have h2 : hl (q r).h (q i).h = true := by
            rw [hl_iff] at hlt ⊢
            omega
          have h3 : hl (q i).h (q r).h = false := by simpa using hlt
          have hn : nw (q r) (q i) = false := by unfold nw; rw [h3, h2]; rfl
          refine ⟨i, .inl hi, hci, by simp [pn, hn, hl1], fun k hk hck => ?_⟩
          rcases hk with hk | hk
          · exact hm k hk hck
          · subst hk; exact .inr h2
  · rcases h with ⟨rfl, hn⟩ | ⟨i, hi, hci, rfl, hm⟩
    · left
      refine ⟨rfl, fun k hk => ?_⟩
      rcases hk with hk | hk
      · exact hn k hk
      · subst hk; exact hc
    · right
      refine ⟨i, .inl hi, hci, rfl, fun k hk hck => ?_⟩
      rcases hk with hk | hk
      · exact hm k hk hck
      · subst hk; exact absurd hck hc
theorem mx_one {n m : Nat} {q : Nat → Sp} {S T : Nat → Prop} {j : Nat} {y z : Sp} (hS : ∀ i, S i ↔ i < m) (hT : ∀ i, T i ↔ i < m) (h : Mx n q S j y) (h' : Mx n q T j z) : y = z := by
  have e : ∀ i, S i ↔ T i := fun i => (hS i).trans (hT i).symm
  rcases h with ⟨rfl, hn⟩ | ⟨i, hi, hci, rfl, hm⟩ <;> rcases h' with ⟨rfl, hn'⟩ | ⟨k, hk, hck, rfl, hm'⟩
  · rfl
  · exact absurd hck (hn k ((e k).2 hk))
  · exact absurd hci (hn' i ((e i).1 hi))
  · rcases hm k ((e k).2 hk) hck with rfl | h1
    · rfl
    · rcases hm' i ((e i).1 hi) hci with rfl | h2
      · rfl
      · rw [hl_iff] at h1 h2
        omega
/-- what a Put leaves -/
def Pf (s : Nat → Nat) (f : Nat → Nat → Sp) (x : Sp) (F : Nat → Nat → Sp) : Prop := (Rgt s x.h ∧ F = up f x.h.n.toNat (ft (f x.h.n.toNat) x x.h.l.toNat x.h.c.toNat)) ∨ (¬ Rgt s x.h ∧ F = f)
theorem szn_pos {s : Nat → Nat} {n : Int} (h : 0 < szn s n) : 0 ≤ n ∧ n < 4 ∧ szn s n = s n.toNat := by
  unfold szn at h ⊢
  split at h
  · rename_i h1; exact ⟨h1.1, h1.2, by rw [if_pos h1]⟩
  · omega
theorem put_any (c b : Nat) (d s : Nat → Nat) (f : Nat → Nat → Sp) (x : Sp) (w : World) (hm : Pm w c d s f (some b) (cnt s f)) (hx : Hok x.h) (hz : ∀ j, j < 4 → s j ≤ 65535) : Calls Try.prog 20 #[pt c, .agg x.cs.toArray] w fun e w' => ∃ v F, e = .returned v ∧ Pf s f x F ∧ Pm w' c d s F (some b) (cnt s F) ∧ Ch (Own4 c d s (some b)) w w' := by
  by_cases hr : Rgt s x.h
  · obtain ⟨h1, h2, h3, h4⟩ := hr
    have h5 : 0 < szn s x.h.n := by omega
    obtain ⟨q1, q2, q3⟩ := szn_pos h5
    have z := put_loop c b d s f x w hm x.h.n.toNat x.h.l.toNat x.h.c.toNat (by omega) (by omega) (by have := hx.1; omega) (by omega) hz h1 (by omega) (by have := hx.1; omega)
    refine z.mono ?_
    rintro e w' ⟨v, R, rfl, _, _, p, ch⟩
    refine ⟨_, _, rfl, .inl ⟨⟨h1, h2, h3, h4⟩, rfl⟩, p, ch.weak fun k _ hk => ?_⟩
    rcases hk with hk | hk
    · exact .inr (.inl ⟨x.h.n.toNat, by omega, by omega, hk⟩)
    · exact .inr (.inr (by rw [hk]))
  · refine (put_no (pt c) d s f (cnt s f) x w (.inr ⟨c, some b, rfl, hm⟩) hx hz hr).mono ?_
    rintro e w' ⟨rfl, hb⟩
    exact ⟨_, f, rfl, .inr ⟨hr, rfl⟩, hm.below hb, Ch.of_below hb⟩
abbrev on1 (n : Nat) : Nat → Nat := up (fun _ => 0) 1 n
theorem szn_one (n : Nat) : szn (on1 n) 1 = n := by
  unfold szn on1
  rw [if_pos (by omega)]
  exact up_eq _ _ _
theorem one_le {n : Nat} (h : n ≤ 65535) (j : Nat) : on1 n j ≤ 65535 := by
  unfold on1 up
  by_cases e : j = 1 <;> simp [e, h]
/-- on1 sector behind a Put into namespace 1 -/
theorem pf_at {n j : Nat} {f F : Nat → Nat → Sp} {x : Sp} (hx : Hok x.h) (hn : x.h.n = 1) (h : Pf (on1 n) f x F) : (cov n x j ∧ F 1 j = pn x (f 1 j)) ∨ (¬ cov n x j ∧ F 1 j = f 1 j) := by
  rcases h with ⟨hr, rfl⟩ | ⟨hr, rfl⟩
  · obtain ⟨h1, h2, h3, h4⟩ := hr
    rw [hn, szn_one] at h3 h4
    rw [hn, show (1 : Int).toNat = 1 from rfl, up_eq]
    have := hx.1
    by_cases hc : cov n x j
    · left
      refine ⟨hc, ?_⟩
      unfold ft
      rw [if_pos (by have := hc.2.2.2; omega)]
    · right
      refine ⟨hc, ?_⟩
      unfold ft
      refine if_neg fun hh => hc ⟨h1, h2, by omega, ?_, ?_⟩
      · have := hh.1; omega
      · have := hh.2; omega
  · right
    refine ⟨fun hc => hr ⟨hc.1, hc.2.1, ?_, ?_⟩, rfl⟩
    · rw [hn, szn_one]; have := hc.2.2; have := hx.1; omega
    · rw [hn, szn_one]; have := hc.2.2; have := hx.1; omega
/-- a map whose namespace 1 has the newest of those in S -/
structure Ab (w : World) (c D b n m : Nat) (q : Nat → Sp) (S : Nat → Prop) (f : Nat → Nat → Sp) : Prop where
  p : Pm w c (on1 D) (on1 n) f (some b) (cnt (on1 n) f)
  k : ∀ j, j < n → Mx n q S j (f 1 j)
  z : ∀ i, S i → i < m
theorem put_ab {w : World} {c D b n m r : Nat} {q : Nat → Sp} {S : Nat → Prop} {f : Nat → Nat → Sp} (h : Ab w c D b n m q S f) (hu : Unl m q) (hn : n ≤ 65535) (hr : r < m) (hx : Hok (q r).h) (h1 : (q r).h.n = 1) : Calls Try.prog 20 #[pt c, .agg (q r).cs.toArray] w fun e w' => ∃ v F, e = .returned v ∧ Ab w' c D b n m q (fun i => S i ∨ i = r) F ∧ Ch (Own4 c (on1 D) (on1 n) (some b)) w w' := by
  refine (put_any c b (on1 D) (on1 n) f (q r) w h.p hx (fun j _ => one_le hn j)).mono ?_
  rintro e w' ⟨v, F, rfl, hF, hp, hc⟩
  exact ⟨v, F, rfl, ⟨hp, fun j hj => mx_step hu h.z (h.k j hj) hr (pf_at hx h1 hF), fun i hi => by rcases hi with hi | hi; exact h.z i hi; omega⟩, hc⟩
end Go.Proofs.Ytedmmpognhpbdaa.pm
