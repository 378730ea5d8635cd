/- What pagemap's Put does, of a spot that speaks of sectors that there are. No claim of its own. -/
import Derived.Test.YtedmmpognhpbdaaJBd
namespace Go.Proofs.Ytedmmpognhpbdaa.pm
open Go.RowKit Go.Proofs.Ytedmmpognhpbdaa.he
set_option maxRecDepth 20000

/-- where a Put stands behind t sectors -/
def Pt (w wr : World) (c b B i : Nat) (d s : Nat → Nat) (f : Nat → Nat → Sp) (x : Sp) (l t : Nat) (v : Value) : Prop := Bd w wr c b w.heap.size B i d s (up f i (ft (f i) x l t)) (cnt s (up f i (ft (f i) x l t))) x v (lf (f i) x l t)
theorem ud_cnt {s : Nat → Nat} (F : Nat → Nat → Sp) {i j : Nat} (x : Sp) (hi : i < 4) (hj : j < s i) (hx : lv x = true) (hy : lv (F i j) = false) : ud (cnt s F) x.p (cnt s F x.p + 1) = cnt s (up F i (up (F i) j x)) := by
  funext p
  rw [cnt_up s F p i j x hi hj]
  unfold ud lc
  rw [hx, hy]
  by_cases e : p = x.p
  · subst e; simp
  · rw [if_neg e]; simp [Ne.symm e]
theorem ud_cnt2 {s : Nat → Nat} (F : Nat → Nat → Sp) {i j : Nat} (x : Sp) (hi : i < 4) (hj : j < s i) (hx : lv x = true) (hy : lv (F i j) = true) (g' : PL → Int) (hg : g' = ud (cnt s F) (F i j).p (cnt s F (F i j).p - 1)) : ud g' x.p (g' x.p + 1) = cnt s (up F i (up (F i) j x)) := by
  subst hg
  funext p
  rw [cnt_up s F p i j x hi hj]
  unfold ud lc
  rw [hx, hy]
  by_cases e : p = x.p
  · subst e
    by_cases e2 : x.p = (F i j).p
    · rw [← e2]; simp
    · rw [if_pos rfl, if_neg e2]; simp [Ne.symm e2]
  · rw [if_neg e]
    by_cases e2 : p = (F i j).p
    · subst e2; simp [Ne.symm e]
    · rw [if_neg e2]; simp [Ne.symm e, Ne.symm e2]
theorem put_start {w wr : World} {c b B i : Nat} {d s : Nat → Nat} {f : Nat → Nat → Sp} {x : Sp} {l : Nat} {v : Value} (p : Pm wr c d s f (some b) (cnt s f)) (hx : Vr wr w.heap.size x.cs) (ho : Os B wr v []) (hc : Ch (fun j => j = d i ∨ j = b) w wr) (hB : w.heap.size < B) (hw : ∀ k, Own4 c d s (some b) k → k < w.heap.size) (hi : i < 4) (hs : 0 < s i) : Pt w wr c b B i d s f x l 0 v := by
  have e : up f i (ft (f i) x l 0) = f := by rw [ft_zero, up_self]
  unfold Pt
  rw [e]
  exact ⟨p, hx, ho, hc, Nat.le_refl _, hB, hw, hi, hs⟩
set_option maxHeartbeats 16000000 in
theorem put_loop (c b : Nat) (d s : Nat → Nat) (f : Nat → Nat → Sp) (x : Sp) (w : World) (hm : Pm w c d s f (some b) (cnt s f)) (i l k : Nat) (hi : x.h.n = i) (hi4 : i < 4) (hll : x.h.l = l) (hcc : x.h.c = k) (hz : ∀ j, j < 4 → s j ≤ 65535) (hk : lk x.h.k = true) (hc : 1 ≤ k) (hd : l + k ≤ s i) :
    Calls Try.prog 20 #[pt c, .agg x.cs.toArray] w fun e w' => ∃ v R, e = .returned (.tuple #[v, .int .i64 0]) ∧ Pls w' v R ∧ St (cnt s (up f i (ft (f i) x l k))) (lf (f i) x l k) R ∧ Pm w' c d s (up f i (ft (f i) x l k)) (some b) (cnt s (up f i (ft (f i) x l k))) ∧ Ch (fun j => j = d i ∨ j = b) w w' := by
  have SP : Hid (∀ W, Below w.heap.size w W → Calls Try.prog 44 #[pt c, .agg x.h.cs.toArray] W fun e w' => ∃ cap, e = .returned (.slice (some ⟨d i, l * 14, none⟩) k cap) ∧ Below W.heap.size W w') := fun W hW => spo_yes c (some b) d s f (cnt s f) x.h W (hm.below hW) i l k hi hi4 hll hcc (hz i hi4) hk hc hd
  have HM : Hid (Pm w c d s f (some b) (cnt s f)) := hm
  have HZ : Hid (∀ j, j < 4 → s j ≤ 65535) := hz
  have HD : Hid (l + k ≤ s i) := hd
  have H4 : Hid (i < 4) := hi4
  have HK : Hid (lv x = true) := hk
  have KK : Hid (k ≤ 65535) := by have := hz i hi4; show _ ≤ _; omega
  have kz : ((k : Int) == 0) = false := beq_eq_false_iff_ne.2 (by omega)
  have k9 : (k : Int) ≤ 65535 := by have := KK.out; omega
  have HC1 : Hid (1 ≤ k) := hc
  clear hm hi hll hcc hz hk hd hc hi4
  have t0 : (0 : Nat) = 0 := rfl
  go_enter Try.func20, Try.ntmps20
  go_wp2_with (first
    | (have qq := t3; refine nil_lawP _ rfl rfl ?_; intro w3 O3 B3 l3; have HB : Hid (Pt w w3 c b w2.heap.size i d s f x l 0 (.slice (some ⟨w2.heap.size, 0, none⟩) 0 0)) := put_start (HM.out.below (BB.out.trans (B3.mono BB.out.size))) (HX.out.below B3 XL.out) (Os.nil O3) (Ch.of_below (BB.out.trans (B3.mono BB.out.size))) XL.out (fun k hk => HM.out.olt hk) H4.out (by have := HC1.out; have := HD.out; omega); clear O3 B3 l3 t3)
    | (have qq := t2; go_at_call 44; refine (SP.out _ BB.out).mono ?_; rintro e w2 ⟨cap, rfl, B2⟩; have HX : Hid (Vr w2 w.heap.size x.cs) := HX.out.below B2 XL.out; have BB : Hid (Below w.heap.size w w2) := BB.out.trans (B2.mono BB.out.size); have XL : Hid (w.heap.size < w2.heap.size) := Nat.lt_of_lt_of_le XL.out B2.size; clear B2 t2; have t3 : (0 : Nat) = 0 := rfl)
    | (have qq := t1; refine load_law _ rfl 35 (.tmp 11) rfl w.heap.size 2 x.h.cs rfl rowy_hd (by have := head_at HX.out.1; rwa [Nat.zero_add] at this) ?_; clear t1; have t2 : (0 : Nat) = 0 := rfl)
    | (have qq := t0; refine box_lawC _ x.cs rfl ?_; intro w1 X1 B1 l1; have HX : Hid (Vr w1 w.heap.size x.cs) := X1; have BB : Hid (Below w.heap.size w w1) := B1; have XL : Hid (w.heap.size < w1.heap.size) := l1; clear X1 B1 l1 t0; have t1 : (0 : Nat) = 0 := rfl))
  obtain ⟨B, hB⟩ : ∃ B, B = w2.heap.size := ⟨_, rfl⟩
  rw [← hB] at HB ⊢
  have WB : Hid (w.heap.size < B) := by rw [hB]; exact XL.out
  clear HX BB XL HM hB
  go_loopw [7, 20] (fun lv tv wr => ∃ (t : Nat) (v : Value), t ≤ k ∧ tv = .int .i64 t ∧ lv = v ∧ Hid (Pt w wr c b B i d s f x l t v)) (fun _ tv _ => k - (intOf tv).toNat)
  case atStart => exact ⟨0, _, Nat.zero_le _, rfl, rfl, HB⟩
  case round =>
    clear SP
    obtain ⟨t, v, ht, rfl, hv9, HPt⟩ := hrel
    obtain rfl := hv9.symm
    have a0 : (0 : Int) ≤ (t : Int) := by omega
    by_cases hlt : t < k
    · have a1 : (t : Int) < (k : Int) := by omega
      have HT : Hid (t < k) := hlt
      have SJ : Hid (l + t < s i) := by have := HD.out; show _ < _; omega
      obtain ⟨y, hy⟩ : ∃ y, y = f i (l + t) := ⟨_, rfl⟩
      have FY : Hid ((up f i (ft (f i) x l t)) i (l + t) = y) := by show _ = _; rw [up_eq, ft_at, hy]
      have YF : Hid (y = f i (l + t)) := hy
      clear hy
      have HB : Hid (Bd w wr c b w.heap.size B i d s (up f i (ft (f i) x l t)) (cnt s (up f i (ft (f i) x l t))) x v (lf (f i) x l t)) := HPt
      obtain ⟨D, hD⟩ : ∃ D, D = d i := ⟨_, rfl⟩
      have DD : Hid (D = d i) := hD
      have AY : Hid (At wr D (l * 14 + t * 14) y.cs) := by
        have z := HB.out.p.r i HB.out.i4 (l + t) SJ.out
        rw [FY.out] at z
        rw [hD, show l * 14 + t * 14 = 0 + (l + t) * 14 by omega]
        exact z
      rw [← hD]
      clear hD HPt
      have t0 : (0 : Nat) = 0 := rfl
      have WS : Hid (w.heap.size ≤ wr.heap.size) := HB.out.ch.size
      have BS : Hid (B ≤ wr.heap.size) := by obtain ⟨G, cap, e9, ho⟩ := HB.out.o; have z := (ow_row (e9 ▸ ho)).2; show _ ≤ _; omega
      cases hv : lv y with
      | false =>
        have SI : Hid (∀ W, Calls Try.prog 45 #[.agg y.cs.toArray] W fun e w' => e = .returned (.bool false) ∧ Below W.heap.size W w') := fun W => by rw [← hv]; exact isspot_any y W
        obtain ⟨gx, hgx⟩ : ∃ z, z = (cnt s (up f i (ft (f i) x l t))) x.p := ⟨_, rfl⟩
        have GX : Hid (gx = (cnt s (up f i (ft (f i) x l t))) x.p) := hgx
        have WA : Hid (IntKind.i64.wrap (gx + 1) = gx + 1) := by have z := cnt_le HZ.out (up f i (ft (f i) x l t)) x.p; rw [← hgx] at z; show _ = _; rw [IntKind.wrap_i64]; omega
        have FF : Hid ((up (up f i (ft (f i) x l t)) i (up ((up f i (ft (f i) x l t)) i) (l + t) x)) = up f i (ft (f i) x l (t + 1))) := by show _ = _; rw [up_up, up_eq, ft_succ, ← YF.out, show pn x y = x by simp [pn, hv]]
        have UC : Hid (ud (cnt s (up f i (ft (f i) x l t))) x.p (gx + 1) = cnt s (up f i (ft (f i) x l (t + 1)))) := by show _ = _; rw [← FF.out, hgx]; exact ud_cnt (up f i (ft (f i) x l t)) x H4.out SJ.out HK.out (by rw [FY.out]; exact hv)
        have LF : Hid (lf (f i) x l (t + 1) = (lf (f i) x l t)) := by show _ = _; rw [lf, ← YF.out, hv]; simp
        clear hgx hv hlt
        go_wp2_with (first
          | (have qq := t8; (with_reducible refine at_store ?_); refine store_lawC _ x.cs D (l * 14 + t * 14) rfl rfl (by have z := (HB.out.p.r i HB.out.i4 (l + t) SJ.out).2; rw [show 0 + (l + t) * 14 = l * 14 + t * 14 by omega] at z; rw [DD.out]; exact z) size_spot x.one ?_; intro w6 e9 r9 h9 _; have HB : Hid (Bd w w6 c b w.heap.size B i d s (up (up f i (ft (f i) x l t)) i (up ((up f i (ft (f i) x l t)) i) (l + t) x)) (cnt s (up f i (ft (f i) x l t))) x v (lf (f i) x l t)) := HB.out.row (l + t) SJ.out x (by rw [← DD.out, show (l + t) * 14 = l * 14 + t * 14 by omega]; exact ⟨r9, h9⟩) (by rw [← DD.out, show (l + t) * 14 = l * 14 + t * 14 by omega, e9.out]; exact wrt_cells _ D _ 14 x.cs rfl); clear e9 r9 h9 t8)
          | (have qq := t7; refine load_law _ (by rfl) 37 (.tmp 3) rfl w.heap.size 0 x.cs rfl rowy_spot HB.out.x.1 ?_; clear t7; have t8 : (0 : Nat) = 0 := rfl)
          | (have qq := t6; go_at_call 45; refine (SI.out _).mono ?_; rintro e w5 ⟨rfl, B9⟩; have HB : Hid (Bd w w5 c b w.heap.size B i d s (up f i (ft (f i) x l t)) (cnt s (up f i (ft (f i) x l t))) x v (lf (f i) x l t)) := HB.out.below B9; have VW : Hid (Vr w5 wr.heap.size y.cs) := VW.out.below B9 (range_lt VW.out.1 (Nat.succ_pos _)); clear B9 t6; have t7 : (0 : Nat) = 0 := rfl)
          | (have qq := t5; refine load_law _ (by rfl) 37 (.tmp 9) rfl wr.heap.size 0 y.cs rfl rowy_spot VW.out.1 ?_; clear t5; have t6 : (0 : Nat) = 0 := rfl)
          | (have qq := t4; go_at_call 45; refine (SI.out _).mono ?_; rintro e w4 ⟨rfl, B9⟩; have HB : Hid (Bd w w4 c b w.heap.size B i d s (up f i (ft (f i) x l t)) (cnt s (up f i (ft (f i) x l t))) x v (lf (f i) x l t)) := HB.out.below B9; have VW : Hid (Vr w4 wr.heap.size y.cs) := VW.out.below B9 (range_lt VW.out.1 (Nat.succ_pos _)); clear B9 t4; have t5 : (0 : Nat) = 0 := rfl)
          | (have qq := t3; refine load_law _ rfl 37 (.tmp 9) rfl wr.heap.size 0 y.cs rfl rowy_spot VW.out.1 ?_; clear t3; have t4 : (0 : Nat) = 0 := rfl)
          | (have qq := t2; (with_reducible refine at_store ?_); refine store_lawC _ y.cs wr.heap.size 0 rfl rfl VZ.out.2 size_spot y.one ?_; intro w3 _ r3 h3 B3; have VW : Hid (Vr w3 wr.heap.size y.cs) := ⟨r3, h3⟩; have HB : Hid (Bd w w3 c b w.heap.size B i d s (up f i (ft (f i) x l t)) (cnt s (up f i (ft (f i) x l t))) x v (lf (f i) x l t)) := HB.out.below (BN.out.trans B3); clear r3 h3 B3 VZ BN t2; have t3 : (0 : Nat) = 0 := rfl)
          | (have qq := t1; (with_reducible refine at_alloc ?_); refine new_lawC _ sp0.cs zero_spot ?_; intro w2 X2 B2 l2; have VZ : Hid (Vr w2 wr.heap.size sp0.cs) := X2; have BN : Hid (Below wr.heap.size wr w2) := B2; clear X2 B2 l2 t1; have t2 : (0 : Nat) = 0 := rfl)
          | (have qq := t0; refine load_law _ rfl 37 (.tmp 23) rfl D (l * 14 + t * 14) y.cs rfl rowy_spot AY.out.1 ?_; clear t0; have t1 : (0 : Nat) = 0 := rfl))
        have HB : Hid (Bd w w6.drew c b w.heap.size B i d s (up (up f i (ft (f i) x l t)) i (up ((up f i (ft (f i) x l t)) i) (l + t) x)) (cnt s (up f i (ft (f i) x l t))) x v (lf (f i) x l t)) := HB.out.below (below_dr (Below.refl _ _) 1)
        refine wp_region_held_drew (S := fun w' => w'.cell? ⟨c, 4, none⟩ = some (.map (some b)) ∧ w'.rangeAt w.heap.size 0 (pc x.p)) (by kernel_rfl) ⟨HB.out.p.v.cell 4 _ rfl, place_at HB.out.x.1⟩ (fun hS => ?_)
        obtain ⟨y1, hx0⟩ : ∃ x, x = w6.drew := ⟨_, rfl⟩
        rw [← hx0] at hS HB ⊢
        clear hx0
        refine take_lawH 0 (some 48) (.pointer (some ⟨c, 0, none⟩)) rfl rfl (by kernel_rfl) (by kernel_rfl) (by kernel_rfl) (fun _ _ _ h => h) (Or.inl ⟨by rfl, fun w' hw' => by rfl⟩) hS ?_
        simp only [Act.put, List.setIfInBounds_toArray, List.set_cons_zero, List.set_cons_succ]
        refine take_lawH 1 (some 49) (.pointer (some ⟨c, 0, none⟩)) rfl rfl (by kernel_rfl) (by kernel_rfl) (by kernel_rfl) (fun _ _ _ h => h) (Or.inl ⟨by rfl, fun w' hw' => by go_simp⟩) hS ?_
        simp only [Act.put, List.setIfInBounds_toArray, List.set_cons_zero, List.set_cons_succ]
        refine take_lawH 2 (some 50) (.pointer (some ⟨c, 4, none⟩)) rfl rfl (by kernel_rfl) (by kernel_rfl) (by kernel_rfl) (fun _ _ _ h => h) (Or.inl ⟨by rfl, fun w' hw' => by go_simp⟩) hS ?_
        simp only [Act.put, List.setIfInBounds_toArray, List.set_cons_zero, List.set_cons_succ]
        refine take_lawH 3 (some 51) (.map (some b)) rfl rfl (by kernel_rfl) (by kernel_rfl) (by kernel_rfl) (fun _ _ _ h => h) (Or.inl ⟨by rfl, fun w' hw' => by exact exec_loadN 69 (.tmp 50) rfl _ rfl _ _ (load_map hw'.1)⟩) hS ?_
        simp only [Act.put, List.setIfInBounds_toArray, List.set_cons_zero, List.set_cons_succ]
        refine take_lawH 4 (some 52) (.pointer (some ⟨w.heap.size, 0, none⟩)) rfl rfl (by kernel_rfl) (by kernel_rfl) (by kernel_rfl) (fun _ _ _ h => h) (Or.inl ⟨by rfl, fun w' hw' => by go_simp⟩) hS ?_
        simp only [Act.put, List.setIfInBounds_toArray, List.set_cons_zero, List.set_cons_succ]
        refine take_lawH 5 (some 53) (.agg (pc x.p).toArray) rfl rfl (by kernel_rfl) (by kernel_rfl) (by kernel_rfl) (fun _ _ _ h => h) (Or.inl ⟨by rfl, fun w' hw' => by exact exec_loadN 31 (.tmp 52) rfl _ rfl _ _ (load_cells rowy_place hw'.2)⟩) hS ?_
        simp only [Act.put, List.setIfInBounds_toArray, List.set_cons_zero, List.set_cons_succ]
        refine wpAnyH_ready (rs := [6, 8]) (by kernel_rfl) (by simp) ?_
        refine AllReadyH.cons rfl (fun K hK => ?_) (AllReadyH.cons rfl (fun K hK => ?_) AllReadyH.nil)
        · refine step_look y1 rfl (some 54) rfl (.tmp 51) (.tmp 53) rfl b (cnt s (up f i (ft (f i) x l t))) x.p rfl rfl (HB.out.p.m b rfl) ?_
          rw [← GX.out]
          refine hK.out _ _ hS (fun _ => ?_)
          simp only [Act.put, List.setIfInBounds_toArray, List.set_cons_zero, List.set_cons_succ]
          clear hK K
          refine take_lawH 7 (some 55) (.int .i64 (gx + 1)) rfl rfl (by kernel_rfl) (by kernel_rfl) (by kernel_rfl) (fun _ _ _ h => h) (Or.inl ⟨by rfl, fun w' hw' => by exact exec_add (.tmp 54) (.const (.int .i64 1)) rfl gx 1 _ rfl rfl WA.out⟩) hS ?_
          simp only [Act.put, List.setIfInBounds_toArray, List.set_cons_zero, List.set_cons_succ]
          refine wpAnyH_ready (rs := [8]) (by kernel_rfl) (by simp) ?_
          refine AllReadyH.cons rfl (fun K hK => ?_) AllReadyH.nil
          refine step_entry y1 rfl (some 56) rfl (.tmp 51) (.tmp 53) rfl b (cnt s (up f i (ft (f i) x l t))) x.p rfl rfl (HB.out.p.m b rfl) ?_
          intro v0 st y2 G9 M9 HE
          have HB : Hid (Bd w y2 c b w.heap.size B i d s (up (up f i (ft (f i) x l t)) i (up ((up f i (ft (f i) x l t)) i) (l + t) x)) (cnt s (up f i (ft (f i) x l t))) x v (lf (f i) x l t)) := HB.out.mp G9 M9
          have hS : y2.cell? ⟨c, 4, none⟩ = some (.map (some b)) ∧ y2.rangeAt w.heap.size 0 (pc x.p) := ⟨HB.out.p.v.cell 4 _ rfl, place_at HB.out.x.1⟩
          clear G9 M9
          refine hK.out _ _ hS (fun _ => ?_)
          simp only [Act.put, List.setIfInBounds_toArray, List.set_cons_zero, List.set_cons_succ]
          clear hK K
          refine take_lawH 9 (some 57) (.int .i64 st) rfl rfl (by kernel_rfl) (by kernel_rfl) (by kernel_rfl) (fun _ _ _ h => h) (Or.inl ⟨by rfl, fun w' hw' => by rfl⟩) hS ?_
          simp only [Act.put, List.setIfInBounds_toArray, List.set_cons_zero, List.set_cons_succ]
          refine wpAnyH_ready (rs := [10]) (by kernel_rfl) (by simp) ?_
          refine AllReadyH.cons rfl (fun K hK => ?_) AllReadyH.nil
          refine step_estore y2 rfl none rfl (.tmp 51) (.tmp 57) (.tmp 55) rfl b st (gx + 1) (fun w3 => y2.grownBy w3 (some b) ∧ Mp w3 b (ud (cnt s (up f i (ft (f i) x l t))) x.p (gx + 1))) rfl rfl rfl (HE.out y2 _ rfl) ?_
          rintro y3 ⟨G9, M9⟩
          rw [UC.out] at M9
          have HB : Hid (Bd w y3 c b w.heap.size B i d s (up (up f i (ft (f i) x l t)) i (up ((up f i (ft (f i) x l t)) i) (l + t) x)) (cnt s (up f i (ft (f i) x l (t + 1)))) x v (lf (f i) x l t)) := HB.out.mp G9 M9
          have hS : y3.cell? ⟨c, 4, none⟩ = some (.map (some b)) ∧ y3.rangeAt w.heap.size 0 (pc x.p) := ⟨HB.out.p.v.cell 4 _ rfl, place_at HB.out.x.1⟩
          clear G9 M9
          clear HE
          refine hK.out _ _ hS (fun _ => ?_)
          simp only [Act.put]
          clear hK K
          refine wpAnyH_done (by kernel_rfl) ?_ _
          go_wp2
          go_roundw
          case rel =>
            refine ⟨t + 1, v, by have := HT.out; omega, by go_num, rfl, ?_⟩
            have z := HB.out
            rw [FF.out] at z
            unfold Pt
            rw [LF.out]
            exact z
          case measure => simp [intOf]; have := HT.out; omega
        · refine step_entry y1 rfl (some 56) rfl (.tmp 51) (.tmp 53) rfl b (cnt s (up f i (ft (f i) x l t))) x.p rfl rfl (HB.out.p.m b rfl) ?_
          intro v0 st y4 G9 M9 HE
          have HB : Hid (Bd w y4 c b w.heap.size B i d s (up (up f i (ft (f i) x l t)) i (up ((up f i (ft (f i) x l t)) i) (l + t) x)) (cnt s (up f i (ft (f i) x l t))) x v (lf (f i) x l t)) := HB.out.mp G9 M9
          have hS : y4.cell? ⟨c, 4, none⟩ = some (.map (some b)) ∧ y4.rangeAt w.heap.size 0 (pc x.p) := ⟨HB.out.p.v.cell 4 _ rfl, place_at HB.out.x.1⟩
          clear G9 M9
          refine hK.out _ _ hS (fun _ => ?_)
          simp only [Act.put, List.setIfInBounds_toArray, List.set_cons_zero, List.set_cons_succ]
          clear hK K
          refine take_lawH 9 (some 57) (.int .i64 st) rfl rfl (by kernel_rfl) (by kernel_rfl) (by kernel_rfl) (fun _ _ _ h => h) (Or.inl ⟨by rfl, fun w' hw' => by rfl⟩) hS ?_
          simp only [Act.put, List.setIfInBounds_toArray, List.set_cons_zero, List.set_cons_succ]
          refine wpAnyH_ready (rs := [6]) (by kernel_rfl) (by simp) ?_
          refine AllReadyH.cons rfl (fun K hK => ?_) AllReadyH.nil
          refine step_look y4 rfl (some 54) rfl (.tmp 51) (.tmp 53) rfl b (cnt s (up f i (ft (f i) x l t))) x.p rfl rfl (HB.out.p.m b rfl) ?_
          rw [← GX.out]
          refine hK.out _ _ hS (fun _ => ?_)
          simp only [Act.put, List.setIfInBounds_toArray, List.set_cons_zero, List.set_cons_succ]
          clear hK K
          refine take_lawH 7 (some 55) (.int .i64 (gx + 1)) rfl rfl (by kernel_rfl) (by kernel_rfl) (by kernel_rfl) (fun _ _ _ h => h) (Or.inl ⟨by rfl, fun w' hw' => by exact exec_add (.tmp 54) (.const (.int .i64 1)) rfl gx 1 _ rfl rfl WA.out⟩) hS ?_
          simp only [Act.put, List.setIfInBounds_toArray, List.set_cons_zero, List.set_cons_succ]
          refine wpAnyH_ready (rs := [10]) (by kernel_rfl) (by simp) ?_
          refine AllReadyH.cons rfl (fun K hK => ?_) AllReadyH.nil
          refine step_estore y4 rfl none rfl (.tmp 51) (.tmp 57) (.tmp 55) rfl b st (gx + 1) (fun w3 => y4.grownBy w3 (some b) ∧ Mp w3 b (ud (cnt s (up f i (ft (f i) x l t))) x.p (gx + 1))) rfl rfl rfl (HE.out y4 _ rfl) ?_
          rintro y5 ⟨G9, M9⟩
          rw [UC.out] at M9
          have HB : Hid (Bd w y5 c b w.heap.size B i d s (up (up f i (ft (f i) x l t)) i (up ((up f i (ft (f i) x l t)) i) (l + t) x)) (cnt s (up f i (ft (f i) x l (t + 1)))) x v (lf (f i) x l t)) := HB.out.mp G9 M9
          have hS : y5.cell? ⟨c, 4, none⟩ = some (.map (some b)) ∧ y5.rangeAt w.heap.size 0 (pc x.p) := ⟨HB.out.p.v.cell 4 _ rfl, place_at HB.out.x.1⟩
          clear G9 M9
          clear HE
          refine hK.out _ _ hS (fun _ => ?_)
          simp only [Act.put]
          clear hK K
          refine wpAnyH_done (by kernel_rfl) ?_ _
          go_wp2
          go_roundw
          case rel =>
            refine ⟨t + 1, v, by have := HT.out; omega, by go_num, rfl, ?_⟩
            have z := HB.out
            rw [FF.out] at z
            unfold Pt
            rw [LF.out]
            exact z
          case measure => simp [intOf]; have := HT.out; omega
      | true =>
        have SI : Hid (∀ W, Calls Try.prog 45 #[.agg y.cs.toArray] W fun e w' => e = .returned (.bool true) ∧ Below W.heap.size W w') := fun W => by rw [← hv]; exact isspot_any y W
        cases hn : nw x y with
        | false =>
          have SN : Hid (∀ W, Calls Try.prog 16 #[.agg x.cs.toArray, .agg y.cs.toArray] W fun e w' => e = .returned (.bool false) ∧ Below W.heap.size W w') := fun W => by rw [← hn]; exact newer_any x y W
          have FF : Hid ((up f i (ft (f i) x l t)) = up f i (ft (f i) x l (t + 1))) := by show _ = _; rw [ft_succ, ← YF.out, show pn x y = y by simp [pn, hv, hn], YF.out, show f i (l + t) = ft (f i) x l t (l + t) by rw [ft_at], up_self]
          have LF : Hid (lf (f i) x l (t + 1) = (lf (f i) x l t)) := by show _ = _; rw [lf, ← YF.out, hv, hn]; simp
          clear hv hn hlt
          go_wp2_with (first
            | (have qq := t7; go_at_call 16; refine (SN.out _).mono ?_; rintro e w5 ⟨rfl, B9⟩; have HB : Hid (Bd w w5 c b w.heap.size B i d s (up f i (ft (f i) x l t)) (cnt s (up f i (ft (f i) x l t))) x v (lf (f i) x l t)) := HB.out.below B9; have VW : Hid (Vr w5 wr.heap.size y.cs) := VW.out.below B9 (range_lt VW.out.1 (Nat.succ_pos _)); clear B9 t7; have t8 : (0 : Nat) = 0 := rfl)
            | (have qq := t6; refine load_law _ (by rfl) 37 (.tmp 9) rfl wr.heap.size 0 y.cs rfl rowy_spot VW.out.1 ?_; clear t6; have t7 : (0 : Nat) = 0 := rfl)
            | (have qq := t5; refine load_law _ (by rfl) 37 (.tmp 3) rfl w.heap.size 0 x.cs rfl rowy_spot HB.out.x.1 ?_; clear t5; have t6 : (0 : Nat) = 0 := rfl)
            | (have qq := t4; go_at_call 45; refine (SI.out _).mono ?_; rintro e w4 ⟨rfl, B9⟩; have HB : Hid (Bd w w4 c b w.heap.size B i d s (up f i (ft (f i) x l t)) (cnt s (up f i (ft (f i) x l t))) x v (lf (f i) x l t)) := HB.out.below B9; have VW : Hid (Vr w4 wr.heap.size y.cs) := VW.out.below B9 (range_lt VW.out.1 (Nat.succ_pos _)); clear B9 t4; have t5 : (0 : Nat) = 0 := rfl)
            | (have qq := t3; refine load_law _ rfl 37 (.tmp 9) rfl wr.heap.size 0 y.cs rfl rowy_spot VW.out.1 ?_; clear t3; have t4 : (0 : Nat) = 0 := rfl)
            | (have qq := t2; (with_reducible refine at_store ?_); refine store_lawC _ y.cs wr.heap.size 0 rfl rfl VZ.out.2 size_spot y.one ?_; intro w3 _ r3 h3 B3; have VW : Hid (Vr w3 wr.heap.size y.cs) := ⟨r3, h3⟩; have HB : Hid (Bd w w3 c b w.heap.size B i d s (up f i (ft (f i) x l t)) (cnt s (up f i (ft (f i) x l t))) x v (lf (f i) x l t)) := HB.out.below (BN.out.trans B3); clear r3 h3 B3 VZ BN t2; have t3 : (0 : Nat) = 0 := rfl)
            | (have qq := t1; (with_reducible refine at_alloc ?_); refine new_lawC _ sp0.cs zero_spot ?_; intro w2 X2 B2 l2; have VZ : Hid (Vr w2 wr.heap.size sp0.cs) := X2; have BN : Hid (Below wr.heap.size wr w2) := B2; clear X2 B2 l2 t1; have t2 : (0 : Nat) = 0 := rfl)
            | (have qq := t0; refine load_law _ rfl 37 (.tmp 23) rfl D (l * 14 + t * 14) y.cs rfl rowy_spot AY.out.1 ?_; clear t0; have t1 : (0 : Nat) = 0 := rfl))
          go_roundw
          case rel =>
            refine ⟨t + 1, v, by have := HT.out; omega, by go_num, rfl, ?_⟩
            have z := HB.out
            rw [FF.out] at z
            unfold Pt
            rw [LF.out]
            exact z
          case measure => simp [intOf]; have := HT.out; omega
        | true =>
          have SN : Hid (∀ W, Calls Try.prog 16 #[.agg x.cs.toArray, .agg y.cs.toArray] W fun e w' => e = .returned (.bool true) ∧ Below W.heap.size W w') := fun W => by rw [← hn]; exact newer_any x y W
          obtain ⟨g1, hg1⟩ : ∃ z, z = ud (cnt s (up f i (ft (f i) x l t))) y.p ((cnt s (up f i (ft (f i) x l t))) y.p - 1) := ⟨_, rfl⟩
          have G1 : Hid (g1 = ud (cnt s (up f i (ft (f i) x l t))) y.p ((cnt s (up f i (ft (f i) x l t))) y.p - 1)) := hg1
          have LV : Hid (1 ≤ (cnt s (up f i (ft (f i) x l t))) y.p ∧ (cnt s (up f i (ft (f i) x l t))) y.p ≤ 1000000) := by have z := cnt_le HZ.out (up f i (ft (f i) x l t)) y.p; have z2 := cnt_pos (up f i (ft (f i) x l t)) H4.out SJ.out (by rw [FY.out]; exact hv); rw [FY.out] at z2; exact ⟨z2, by omega⟩
          obtain ⟨gx, hgx⟩ : ∃ z, z = g1 x.p := ⟨_, rfl⟩
          have GX : Hid (gx = g1 x.p) := hgx
          have WA : Hid (IntKind.i64.wrap (gx + 1) = gx + 1) := by have z := cnt_le HZ.out (up f i (ft (f i) x l t)) x.p; have z2 := LV.out; show _ = _; rw [hgx, hg1]; unfold ud; rw [IntKind.wrap_i64]; split <;> omega
          have FF : Hid ((up (up f i (ft (f i) x l t)) i (up ((up f i (ft (f i) x l t)) i) (l + t) x)) = up f i (ft (f i) x l (t + 1))) := by show _ = _; rw [up_up, up_eq, ft_succ, ← YF.out, show pn x y = x by simp [pn, hv, hn]]
          have UC : Hid (ud g1 x.p (gx + 1) = cnt s (up f i (ft (f i) x l (t + 1)))) := by show _ = _; rw [← FF.out, hgx]; exact ud_cnt2 (up f i (ft (f i) x l t)) x H4.out SJ.out HK.out (by rw [FY.out]; exact hv) g1 (by rw [FY.out]; exact hg1)
          have LF : Hid (lf (f i) x l (t + 1) = (lf (f i) x l t) ++ [y.p]) := by show _ = _; rw [lf, ← YF.out, hv, hn]; simp
          clear hgx hg1 hv hn hlt
          go_wp2_with (first
            | (have qq := t16; (with_reducible refine at_store ?_); refine store_lawC _ x.cs D (l * 14 + t * 14) rfl rfl (by have z := (HB.out.p.r i HB.out.i4 (l + t) SJ.out).2; rw [show 0 + (l + t) * 14 = l * 14 + t * 14 by omega] at z; rw [DD.out]; exact z) size_spot x.one ?_; intro w10 e9 r9 h9 _; have HB : Hid (Bd w w10 c b w.heap.size B i d s (up (up f i (ft (f i) x l t)) i (up ((up f i (ft (f i) x l t)) i) (l + t) x)) g1 x v9 ((lf (f i) x l t) ++ [y.p])) := HB.out.row (l + t) SJ.out x (by rw [← DD.out, show (l + t) * 14 = l * 14 + t * 14 by omega]; exact ⟨r9, h9⟩) (by rw [← DD.out, show (l + t) * 14 = l * 14 + t * 14 by omega, e9.out]; exact wrt_cells _ D _ 14 x.cs rfl); clear e9 r9 h9 t16)
            | (have qq := t15; refine load_law _ (by rfl) 37 (.tmp 3) rfl w.heap.size 0 x.cs rfl rowy_spot HB.out.x.1 ?_; clear t15; have t16 : (0 : Nat) = 0 := rfl)
            | (have qq := t14; refine push_lawO _ rfl (.tmp 39) (.tmp 42) rfl B (by have := HB.out.ch.size; have := BS.out; have z := HB.out.o; obtain ⟨G, cap, e9, ho⟩ := z; have := (ow_row (e9 ▸ ho)).2; omega) v (lf (f i) x l t) w7.heap.size y.p rfl rfl HB.out.o VL.out (by have := lf_len (f i) x l t; have := HT.out; have := KK.out; omega) ?_; intro v9 w9 O9 G9; have HB : Hid (Bd w w9 c b w.heap.size B i d s (up f i (ft (f i) x l t)) g1 x v9 ((lf (f i) x l t) ++ [y.p])) := HB.out.push G9 O9; clear O9 G9 VL VW t14; have t15 : (0 : Nat) = 0 := rfl)
            | (have qq := t13; refine one_lawP _ rfl (.tmp 41) y.p rfl rfl ?_; intro w8 X9 B9 l9; have VL : Hid (Vr w8 w7.heap.size (pc y.p)) := X9; have HB : Hid (Bd w w8 c b w.heap.size B i d s (up f i (ft (f i) x l t)) g1 x v (lf (f i) x l t)) := HB.out.below B9; clear X9 B9 l9 t13; have t14 : (0 : Nat) = 0 := rfl)
            | (have qq := t12; refine load_law _ (by rfl) 31 (.tmp 40) rfl wr.heap.size 0 (pc y.p) rfl rowy_place (place_at VW.out.1) ?_; clear t12; have t13 : (0 : Nat) = 0 := rfl)
            | (have qq := t11; go_at_call 46; refine (leave_any c b _ y.p _ (HB.out.p.v.cell 4 _ rfl) (HB.out.p.m b rfl) LV.out.1 LV.out.2).mono ?_; rintro e w7 ⟨rfl, M9, G9⟩; have HB : Hid (Bd w w7 c b w.heap.size B i d s (up f i (ft (f i) x l t)) g1 x v (lf (f i) x l t)) := HB.out.mp G9 (by rw [G1.out]; exact M9); have VW : Hid (Vr w7 wr.heap.size y.cs) := VW.out.heap (G9.block _ (range_lt VW.out.1 (Nat.succ_pos _)) (fun e => by have := HB.out.blt; have := WS.out; have := Option.some.inj e; omega)); clear M9 G9 t11; have t12 : (0 : Nat) = 0 := rfl)
            | (have qq := t10; refine load_law _ (by rfl) 31 (.tmp 36) rfl wr.heap.size 0 (pc y.p) rfl rowy_place (place_at VW.out.1) ?_; clear t10; have t11 : (0 : Nat) = 0 := rfl)
            | (have qq := t9; go_at_call 45; refine (SI.out _).mono ?_; rintro e w6 ⟨rfl, B9⟩; have HB : Hid (Bd w w6 c b w.heap.size B i d s (up f i (ft (f i) x l t)) (cnt s (up f i (ft (f i) x l t))) x v (lf (f i) x l t)) := HB.out.below B9; have VW : Hid (Vr w6 wr.heap.size y.cs) := VW.out.below B9 (range_lt VW.out.1 (Nat.succ_pos _)); clear B9 t9; have t10 : (0 : Nat) = 0 := rfl)
            | (have qq := t8; refine load_law _ (by rfl) 37 (.tmp 9) rfl wr.heap.size 0 y.cs rfl rowy_spot VW.out.1 ?_; clear t8; have t9 : (0 : Nat) = 0 := rfl)
            | (have qq := t7; go_at_call 16; refine (SN.out _).mono ?_; rintro e w5 ⟨rfl, B9⟩; have HB : Hid (Bd w w5 c b w.heap.size B i d s (up f i (ft (f i) x l t)) (cnt s (up f i (ft (f i) x l t))) x v (lf (f i) x l t)) := HB.out.below B9; have VW : Hid (Vr w5 wr.heap.size y.cs) := VW.out.below B9 (range_lt VW.out.1 (Nat.succ_pos _)); clear B9 t7; have t8 : (0 : Nat) = 0 := rfl)
            | (have qq := t6; refine load_law _ (by rfl) 37 (.tmp 9) rfl wr.heap.size 0 y.cs rfl rowy_spot VW.out.1 ?_; clear t6; have t7 : (0 : Nat) = 0 := rfl)
            | (have qq := t5; refine load_law _ (by rfl) 37 (.tmp 3) rfl w.heap.size 0 x.cs rfl rowy_spot HB.out.x.1 ?_; clear t5; have t6 : (0 : Nat) = 0 := rfl)
            | (have qq := t4; go_at_call 45; refine (SI.out _).mono ?_; rintro e w4 ⟨rfl, B9⟩; have HB : Hid (Bd w w4 c b w.heap.size B i d s (up f i (ft (f i) x l t)) (cnt s (up f i (ft (f i) x l t))) x v (lf (f i) x l t)) := HB.out.below B9; have VW : Hid (Vr w4 wr.heap.size y.cs) := VW.out.below B9 (range_lt VW.out.1 (Nat.succ_pos _)); clear B9 t4; have t5 : (0 : Nat) = 0 := rfl)
            | (have qq := t3; refine load_law _ rfl 37 (.tmp 9) rfl wr.heap.size 0 y.cs rfl rowy_spot VW.out.1 ?_; clear t3; have t4 : (0 : Nat) = 0 := rfl)
            | (have qq := t2; (with_reducible refine at_store ?_); refine store_lawC _ y.cs wr.heap.size 0 rfl rfl VZ.out.2 size_spot y.one ?_; intro w3 _ r3 h3 B3; have VW : Hid (Vr w3 wr.heap.size y.cs) := ⟨r3, h3⟩; have HB : Hid (Bd w w3 c b w.heap.size B i d s (up f i (ft (f i) x l t)) (cnt s (up f i (ft (f i) x l t))) x v (lf (f i) x l t)) := HB.out.below (BN.out.trans B3); clear r3 h3 B3 VZ BN t2; have t3 : (0 : Nat) = 0 := rfl)
            | (have qq := t1; (with_reducible refine at_alloc ?_); refine new_lawC _ sp0.cs zero_spot ?_; intro w2 X2 B2 l2; have VZ : Hid (Vr w2 wr.heap.size sp0.cs) := X2; have BN : Hid (Below wr.heap.size wr w2) := B2; clear X2 B2 l2 t1; have t2 : (0 : Nat) = 0 := rfl)
            | (have qq := t0; refine load_law _ rfl 37 (.tmp 23) rfl D (l * 14 + t * 14) y.cs rfl rowy_spot AY.out.1 ?_; clear t0; have t1 : (0 : Nat) = 0 := rfl))
          have HB : Hid (Bd w w10.drew c b w.heap.size B i d s (up (up f i (ft (f i) x l t)) i (up ((up f i (ft (f i) x l t)) i) (l + t) x)) g1 x v9 ((lf (f i) x l t) ++ [y.p])) := HB.out.below (below_dr (Below.refl _ _) 1)
          refine wp_region_held_drew (S := fun w' => w'.cell? ⟨c, 4, none⟩ = some (.map (some b)) ∧ w'.rangeAt w.heap.size 0 (pc x.p)) (by kernel_rfl) ⟨HB.out.p.v.cell 4 _ rfl, place_at HB.out.x.1⟩ (fun hS => ?_)
          obtain ⟨y1, hx0⟩ : ∃ x, x = w10.drew := ⟨_, rfl⟩
          rw [← hx0] at hS HB ⊢
          clear hx0
          refine take_lawH 0 (some 48) (.pointer (some ⟨c, 0, none⟩)) rfl rfl (by kernel_rfl) (by kernel_rfl) (by kernel_rfl) (fun _ _ _ h => h) (Or.inl ⟨by rfl, fun w' hw' => by rfl⟩) hS ?_
          simp only [Act.put, List.setIfInBounds_toArray, List.set_cons_zero, List.set_cons_succ]
          refine take_lawH 1 (some 49) (.pointer (some ⟨c, 0, none⟩)) rfl rfl (by kernel_rfl) (by kernel_rfl) (by kernel_rfl) (fun _ _ _ h => h) (Or.inl ⟨by rfl, fun w' hw' => by go_simp⟩) hS ?_
          simp only [Act.put, List.setIfInBounds_toArray, List.set_cons_zero, List.set_cons_succ]
          refine take_lawH 2 (some 50) (.pointer (some ⟨c, 4, none⟩)) rfl rfl (by kernel_rfl) (by kernel_rfl) (by kernel_rfl) (fun _ _ _ h => h) (Or.inl ⟨by rfl, fun w' hw' => by go_simp⟩) hS ?_
          simp only [Act.put, List.setIfInBounds_toArray, List.set_cons_zero, List.set_cons_succ]
          refine take_lawH 3 (some 51) (.map (some b)) rfl rfl (by kernel_rfl) (by kernel_rfl) (by kernel_rfl) (fun _ _ _ h => h) (Or.inl ⟨by rfl, fun w' hw' => by exact exec_loadN 69 (.tmp 50) rfl _ rfl _ _ (load_map hw'.1)⟩) hS ?_
          simp only [Act.put, List.setIfInBounds_toArray, List.set_cons_zero, List.set_cons_succ]
          refine take_lawH 4 (some 52) (.pointer (some ⟨w.heap.size, 0, none⟩)) rfl rfl (by kernel_rfl) (by kernel_rfl) (by kernel_rfl) (fun _ _ _ h => h) (Or.inl ⟨by rfl, fun w' hw' => by go_simp⟩) hS ?_
          simp only [Act.put, List.setIfInBounds_toArray, List.set_cons_zero, List.set_cons_succ]
          refine take_lawH 5 (some 53) (.agg (pc x.p).toArray) rfl rfl (by kernel_rfl) (by kernel_rfl) (by kernel_rfl) (fun _ _ _ h => h) (Or.inl ⟨by rfl, fun w' hw' => by exact exec_loadN 31 (.tmp 52) rfl _ rfl _ _ (load_cells rowy_place hw'.2)⟩) hS ?_
          simp only [Act.put, List.setIfInBounds_toArray, List.set_cons_zero, List.set_cons_succ]
          refine wpAnyH_ready (rs := [6, 8]) (by kernel_rfl) (by simp) ?_
          refine AllReadyH.cons rfl (fun K hK => ?_) (AllReadyH.cons rfl (fun K hK => ?_) AllReadyH.nil)
          · refine step_look y1 rfl (some 54) rfl (.tmp 51) (.tmp 53) rfl b g1 x.p rfl rfl (HB.out.p.m b rfl) ?_
            rw [← GX.out]
            refine hK.out _ _ hS (fun _ => ?_)
            simp only [Act.put, List.setIfInBounds_toArray, List.set_cons_zero, List.set_cons_succ]
            clear hK K
            refine take_lawH 7 (some 55) (.int .i64 (gx + 1)) rfl rfl (by kernel_rfl) (by kernel_rfl) (by kernel_rfl) (fun _ _ _ h => h) (Or.inl ⟨by rfl, fun w' hw' => by exact exec_add (.tmp 54) (.const (.int .i64 1)) rfl gx 1 _ rfl rfl WA.out⟩) hS ?_
            simp only [Act.put, List.setIfInBounds_toArray, List.set_cons_zero, List.set_cons_succ]
            refine wpAnyH_ready (rs := [8]) (by kernel_rfl) (by simp) ?_
            refine AllReadyH.cons rfl (fun K hK => ?_) AllReadyH.nil
            refine step_entry y1 rfl (some 56) rfl (.tmp 51) (.tmp 53) rfl b g1 x.p rfl rfl (HB.out.p.m b rfl) ?_
            intro v0 st y2 G9 M9 HE
            have HB : Hid (Bd w y2 c b w.heap.size B i d s (up (up f i (ft (f i) x l t)) i (up ((up f i (ft (f i) x l t)) i) (l + t) x)) g1 x v9 ((lf (f i) x l t) ++ [y.p])) := HB.out.mp G9 M9
            have hS : y2.cell? ⟨c, 4, none⟩ = some (.map (some b)) ∧ y2.rangeAt w.heap.size 0 (pc x.p) := ⟨HB.out.p.v.cell 4 _ rfl, place_at HB.out.x.1⟩
            clear G9 M9
            refine hK.out _ _ hS (fun _ => ?_)
            simp only [Act.put, List.setIfInBounds_toArray, List.set_cons_zero, List.set_cons_succ]
            clear hK K
            refine take_lawH 9 (some 57) (.int .i64 st) rfl rfl (by kernel_rfl) (by kernel_rfl) (by kernel_rfl) (fun _ _ _ h => h) (Or.inl ⟨by rfl, fun w' hw' => by rfl⟩) hS ?_
            simp only [Act.put, List.setIfInBounds_toArray, List.set_cons_zero, List.set_cons_succ]
            refine wpAnyH_ready (rs := [10]) (by kernel_rfl) (by simp) ?_
            refine AllReadyH.cons rfl (fun K hK => ?_) AllReadyH.nil
            refine step_estore y2 rfl none rfl (.tmp 51) (.tmp 57) (.tmp 55) rfl b st (gx + 1) (fun w3 => y2.grownBy w3 (some b) ∧ Mp w3 b (ud g1 x.p (gx + 1))) rfl rfl rfl (HE.out y2 _ rfl) ?_
            rintro y3 ⟨G9, M9⟩
            rw [UC.out] at M9
            have HB : Hid (Bd w y3 c b w.heap.size B i d s (up (up f i (ft (f i) x l t)) i (up ((up f i (ft (f i) x l t)) i) (l + t) x)) (cnt s (up f i (ft (f i) x l (t + 1)))) x v9 ((lf (f i) x l t) ++ [y.p])) := HB.out.mp G9 M9
            have hS : y3.cell? ⟨c, 4, none⟩ = some (.map (some b)) ∧ y3.rangeAt w.heap.size 0 (pc x.p) := ⟨HB.out.p.v.cell 4 _ rfl, place_at HB.out.x.1⟩
            clear G9 M9
            clear HE
            refine hK.out _ _ hS (fun _ => ?_)
            simp only [Act.put]
            clear hK K
            refine wpAnyH_done (by kernel_rfl) ?_ _
            go_wp2
            go_roundw
            case rel =>
              refine ⟨t + 1, v9, by have := HT.out; omega, by go_num, rfl, ?_⟩
              have z := HB.out
              rw [FF.out] at z
              unfold Pt
              rw [LF.out]
              exact z
            case measure => simp [intOf]; have := HT.out; omega
          · refine step_entry y1 rfl (some 56) rfl (.tmp 51) (.tmp 53) rfl b g1 x.p rfl rfl (HB.out.p.m b rfl) ?_
            intro v0 st y4 G9 M9 HE
            have HB : Hid (Bd w y4 c b w.heap.size B i d s (up (up f i (ft (f i) x l t)) i (up ((up f i (ft (f i) x l t)) i) (l + t) x)) g1 x v9 ((lf (f i) x l t) ++ [y.p])) := HB.out.mp G9 M9
            have hS : y4.cell? ⟨c, 4, none⟩ = some (.map (some b)) ∧ y4.rangeAt w.heap.size 0 (pc x.p) := ⟨HB.out.p.v.cell 4 _ rfl, place_at HB.out.x.1⟩
            clear G9 M9
            refine hK.out _ _ hS (fun _ => ?_)
            simp only [Act.put, List.setIfInBounds_toArray, List.set_cons_zero, List.set_cons_succ]
            clear hK K
            refine take_lawH 9 (some 57) (.int .i64 st) rfl rfl (by kernel_rfl) (by kernel_rfl) (by kernel_rfl) (fun _ _ _ h => h) (Or.inl ⟨by rfl, fun w' hw' => by rfl⟩) hS ?_
            simp only [Act.put, List.setIfInBounds_toArray, List.set_cons_zero, List.set_cons_succ]
            refine wpAnyH_ready (rs := [6]) (by kernel_rfl) (by simp) ?_
            refine AllReadyH.cons rfl (fun K hK => ?_) AllReadyH.nil
            refine step_look y4 rfl (some 54) rfl (.tmp 51) (.tmp 53) rfl b g1 x.p rfl rfl (HB.out.p.m b rfl) ?_
            rw [← GX.out]
            refine hK.out _ _ hS (fun _ => ?_)
            simp only [Act.put, List.setIfInBounds_toArray, List.set_cons_zero, List.set_cons_succ]
            clear hK K
            refine take_lawH 7 (some 55) (.int .i64 (gx + 1)) rfl rfl (by kernel_rfl) (by kernel_rfl) (by kernel_rfl) (fun _ _ _ h => h) (Or.inl ⟨by rfl, fun w' hw' => by exact exec_add (.tmp 54) (.const (.int .i64 1)) rfl gx 1 _ rfl rfl WA.out⟩) hS ?_
            simp only [Act.put, List.setIfInBounds_toArray, List.set_cons_zero, List.set_cons_succ]
            refine wpAnyH_ready (rs := [10]) (by kernel_rfl) (by simp) ?_
            refine AllReadyH.cons rfl (fun K hK => ?_) AllReadyH.nil
            refine step_estore y4 rfl none rfl (.tmp 51) (.tmp 57) (.tmp 55) rfl b st (gx + 1) (fun w3 => y4.grownBy w3 (some b) ∧ Mp w3 b (ud g1 x.p (gx + 1))) rfl rfl rfl (HE.out y4 _ rfl) ?_
            rintro y5 ⟨G9, M9⟩
            rw [UC.out] at M9
            have HB : Hid (Bd w y5 c b w.heap.size B i d s (up (up f i (ft (f i) x l t)) i (up ((up f i (ft (f i) x l t)) i) (l + t) x)) (cnt s (up f i (ft (f i) x l (t + 1)))) x v9 ((lf (f i) x l t) ++ [y.p])) := HB.out.mp G9 M9
            have hS : y5.cell? ⟨c, 4, none⟩ = some (.map (some b)) ∧ y5.rangeAt w.heap.size 0 (pc x.p) := ⟨HB.out.p.v.cell 4 _ rfl, place_at HB.out.x.1⟩
            clear G9 M9
            clear HE
            refine hK.out _ _ hS (fun _ => ?_)
            simp only [Act.put]
            clear hK K
            refine wpAnyH_done (by kernel_rfl) ?_ _
            go_wp2
            go_roundw
            case rel =>
              refine ⟨t + 1, v9, by have := HT.out; omega, by go_num, rfl, ?_⟩
              have z := HB.out
              rw [FF.out] at z
              unfold Pt
              rw [LF.out]
              exact z
            case measure => simp [intOf]; have := HT.out; omega
    · have e : t = k := by omega
      subst e
      have HB : Hid (Bd w wr c b w.heap.size B i d s (up f i (ft (f i) x l t)) (cnt s (up f i (ft (f i) x l t))) x v (lf (f i) x l t)) := HPt
      have n1 : ¬ (t : Int) < (t : Int) := by omega
      clear HPt
      go_wp2_with (go_at_call 47; refine (stale_any B c d s (up f i (ft (f i) x l t)) (some b) (cnt s (up f i (ft (f i) x l t))) v (lf (f i) x l t) _ HB.out.p HB.out.o (by have := lf_len (f i) x l t; have := KK.out; omega) (fun k hk ho => by have := HB.out.own k ho; have := HB.out.o.low hk; have := WB.out; omega)).mono ?_; rintro e w9 ⟨v', R, rfl, P9, S9, C9⟩; have HP : Hid (Pls w9 v' R) := P9; have HS : Hid (St (cnt s (up f i (ft (f i) x l t))) (lf (f i) x l t) R) := S9; have HR : Hid (Pm w9 c d s (up f i (ft (f i) x l t)) (some b) (cnt s (up f i (ft (f i) x l t)))) := HB.out.p.ch C9 (fun k ho hk => by have := HB.out.own k ho; have := HB.out.o.low hk; have := WB.out; omega); have HC : Hid (Ch (fun j => j = d i ∨ j = b) w w9) := HB.out.ch.join C9 (fun k hw hk => by have := HB.out.o.low hk; have := WB.out; omega); clear P9 S9 C9)
      go_ret2
      exact ⟨v', R, rfl, HP.out, HS.out, HR.out, HC.out⟩
end Go.Proofs.Ytedmmpognhpbdaa.pm
