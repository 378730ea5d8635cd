/- Texts put together. -/
import Derived.Test.YtikcohjhhoiakaaPk16
import Derived.Test.YtikcohjhhoiakaaPk13
set_option maxHeartbeats 8000000
namespace Go.Proofs.Ytikcohjhhoiakaa.na
open Go.RowKit Go.Proofs.Ytikcohjhhoiakaa.fa
set_option maxRecDepth 20000
def Rnw (w : World) (h3 B k P S : Nat) (g : List Int) (pv bv : Value) : Prop := Vr w h3 (chr g bv pv false 0) ∧ (∃ gv uv : Nat → Value, OwR B w bv 50 5 (bks k gv uv (fun _ => (-1 : Int)) (fun _ => false) (fun _ => (0 : Int))) ∧ ∀ b, b < k → BlkO B w (gv b) (uv b) P (fun _ => List.replicate S 255) (fun _ => 0)) ∧ h3 < B ∧ B ≤ w.heap.size
theorem Rnw.low {w w' : World} {h3 B k P S : Nat} {g : List Int} {pv bv : Value} (h : Rnw w h3 B k P S g pv bv) (hb : Below w.heap.size w w') : Rnw w' h3 B k P S g pv bv := by
 obtain ⟨c1, ⟨gv, uv, c2, c3⟩, c5, c6⟩ := h
 exact ⟨c1.below hb (range_lt c1.1 (by simp [chr])), ⟨gv, uv, c2.low hb, fun b hb' => (c3 b hb').low hb⟩, c5, Nat.le_trans c6 hb.size⟩
theorem build_blk (gv uv : Value) (l : Int) (s : Bool) (e : Int) (w : World) : (Instr.buildSlice 36 1 #[(0, .agg (bkc gv uv l s e).toArray)]).run Try.prog w = .ok (.slice (some ⟨w.heap.size, 0, none⟩) 1 1) (w.alloc (.cells (bkc gv uv l s e).toArray 50)) := by kernel_rfl
theorem bks_congr {N : Nat} {gv uv gv' uv' : Nat → Value} {l l' : Nat → Int} {s s' : Nat → Bool} {e e' : Nat → Int} (h1 : ∀ b, b < N → gv b = gv' b) (h2 : ∀ b, b < N → uv b = uv' b) (h3 : ∀ b, b < N → l b = l' b) (h4 : ∀ b, b < N → s b = s' b) (h5 : ∀ b, b < N → e b = e' b) : bks N gv uv l s e = bks N gv' uv' l' s' e' := by
 unfold bks
 exact List.map_congr_left fun b hb => by rw [h1 b (List.mem_range.1 hb), h2 b (List.mem_range.1 hb), h3 b (List.mem_range.1 hb), h4 b (List.mem_range.1 hb), h5 b (List.mem_range.1 hb)]
theorem BlkO.kept {w w' : World} {B h : Nat} {gv uv : Value} {P : Nat} {pg : Nat → List Int} {us : Nat → Int} (hb : BlkO B w gv uv P pg us) (hg : w.grownBy w' (some h)) (hh : h < B) : BlkO B w' gv uv P pg us := by
 obtain ⟨⟨xv, a1, a2⟩, a3⟩ := hb
 exact ⟨⟨xv, a1.kept hg (own_ne fun kk hkk => by have := (a1.1.lt kk hkk).1; omega), fun p hp => World.ownsRow.kept (a2 p hp) hg (own_ne fun kk hkk => by have := (World.ownsRow.lt (a2 p hp) kk hkk).1; omega)⟩, a3.kept hg (own_ne fun kk hkk => by have := (a3.1.lt kk hkk).1; omega)⟩
theorem bkc_one {gv uv : Value} (l : Int) (s : Bool) (e : Int) (h1 : gv.oneCell' = true) (h2 : uv.oneCell' = true) : ∀ v ∈ bkc gv uv l s e, v.oneCell' = true := fun v hv => by
 simp [bkc] at hv
 rcases hv with rfl | rfl | rfl | rfl | rfl
 ·exact h1
 ·exact h2
 all_goals rfl
theorem BlkO.one {B : Nat} {w : World} {gv uv : Value} {P : Nat} {pg : Nat → List Int} {us : Nat → Int} (h : BlkO B w gv uv P pg us) : gv.oneCell' = true ∧ uv.oneCell' = true := by
 obtain ⟨⟨xv, a1, -⟩, a3⟩ := h
 exact ⟨own_one (a1.base (Nat.zero_le _)), own_one (a3.base (Nat.zero_le _))⟩
theorem rnew_any (N P S : Nat) (g2 g3 g4 g5 : Int) (hs : Shp [(N : Int), P, g2, g3, g4, g5] N P S) (po : Option Addr) (pn pc : Nat) (w : World) :
  Calls Try.prog 14 #[.agg (ints .i64 [(N : Int), P, g2, g3, g4, g5]), (.slice po pn pc)] w fun e w' => ∃ bv, e = .returned (.agg (chr [(N : Int), P, g2, g3, g4, g5] bv (.slice po pn pc) false 0).toArray) ∧ (∃ gv uv : Nat → Value, OwR w.heap.size w' bv 50 5 (bks N gv uv (fun _ => (-1 : Int)) (fun _ => false) (fun _ => (0 : Int))) ∧ ∀ b, b < N → BlkO w.heap.size w' (gv b) (uv b) P (fun _ => List.replicate S 255) (fun _ => 0)) ∧ Below w.heap.size w w' := by
 have HNM : Hid (N ≤ 64) := by
  obtain ⟨gl, hr, g0, g1, g2⟩ := hs
  obtain ⟨k1, -⟩ := hr.1
  show N ≤ 64
  omega
 have SB := hdH (fun w => blank_any [(N : Int), P, g2, g3, g4, g5] N P S hs w)
 have hg : ([(N : Int), P, g2, g3, g4, g5] : List Int).length = 6 := rfl
 have hN64 : N ≤ 64 := HNM.out
 clear hs
 have t0 := tR
 go_enter Try.func14, Try.ntmps14
 go_wp2_with (first
  | (have q4 := t4; refine store_lawC _ (chr [(N : Int), P, g2, g3, g4, g5] (.slice none 0 0) (.slice po pn pc) false 0) w2.heap.size 0 rfl rfl HV3.out.2 rowy_chipR.2 chrO ?_; intro w4 E4 R4 T4 B4
     have HV4 : Hid (Vr w4 w2.heap.size (chr [(N : Int), P, g2, g3, g4, g5] (.slice none 0 0) (.slice po pn pc) false 0)) := ⟨R4, T4⟩
     have HV2 := hdH (HV2.out.below B4 l2)
     have HP := hdH (HP.out.below B4 (Nat.lt_trans l1 l2))
     have BB := hdH (BB.out.trans (B4.mono (by omega)))
     have l4 : w2.heap.size < w4.heap.size := Nat.lt_of_lt_of_le l3 B4.size
     clear R4 T4 E4 B4 t4; have t5 := tR)
  | (have q3 := t3; refine new_lawC _ _ zero_chr ?_; intro w3 V3 B3 l3; have HV3 := hdH (V3); have HV2 := hdH (HV2.out.below B3 l2); have HP := hdH (HP.out.below B3 (Nat.lt_trans l1 l2)); have BB := hdH (BB.out.trans (B3.mono (by omega))); clear V3 B3 t3 c0 c1 c2 c3 c4 c5; have t4 := tR)
  | (have q1 := t1; refine new_lawC _ _ zero_chr ?_; intro w2 V2 B2 l2; have HV2 := hdH (V2); have HP := hdH (HP.out.below B2 l1); have BB := hdH (BB.out.trans (B2.mono (by omega))); have c0 : w2.cell? ⟨w.heap.size, 0, none⟩ = some (.int .i64 (N : Int)) := HP.out.cell0 0 (by simp); have c1 : w2.cell? ⟨w.heap.size, 1, none⟩ = some (.int .i64 (P : Int)) := HP.out.cell0 1 (by simp); have c2 : w2.cell? ⟨w.heap.size, 2, none⟩ = some (.int .i64 g2) := HP.out.cell0 2 (by simp); have c3 : w2.cell? ⟨w.heap.size, 3, none⟩ = some (.int .i64 g3) := HP.out.cell0 3 (by simp); have c4 : w2.cell? ⟨w.heap.size, 4, none⟩ = some (.int .i64 g4) := HP.out.cell0 4 (by simp); have c5 : w2.cell? ⟨w.heap.size, 5, none⟩ = some (.int .i64 g5) := HP.out.cell0 5 (by simp); clear V2 B2 t1; have t3 := tR)
  | (have q0 := t0; refine box_lawF _ rfl (.tmp 0) 23 rfl .i64 [(N : Int), P, g2, g3, g4, g5] rfl ?_; intro w1 X1 B1 l1; have HP := hdH (X1); have BB := hdH (B1); clear X1 B1 t0; have t1 := tR))
 obtain ⟨h1, e1⟩ : ∃ x, x = w.heap.size := ⟨_, rfl⟩
 obtain ⟨h2, e2⟩ : ∃ x, x = w1.heap.size := ⟨_, rfl⟩
 obtain ⟨h3, e3⟩ : ∃ x, x = w2.heap.size := ⟨_, rfl⟩
 obtain ⟨B, hB⟩ : ∃ x, x = w4.heap.size := ⟨_, rfl⟩
 have HO : Hid (h1 = w.heap.size ∧ h1 < h2 ∧ h2 < h3 ∧ h3 < B) := ⟨e1, by omega, by omega, by omega⟩
 rw [← e1] at HP
 rw [← e2] at HV2
 rw [← e3] at HV4
 have HI : Hid (∃ bv, Rnw w4 h3 B 0 P S [(N : Int), P, g2, g3, g4, g5] (.slice po pn pc) bv) := ⟨_, HV4.out, ⟨fun _ => .slice none 0 0, fun _ => .slice none 0 0, OwR.nil _ _ _ _, fun b hb => by omega⟩, by omega, by omega⟩
 rw [← e1, ← e2, ← e3]
 clear e1 e2 e3 hB l1 l2 l3 l4 HV4 HV3
 go_loopw [6] (fun i wr => ∃ k : Nat, k ≤ N ∧ i = .int .i64 k ∧ Hid (∃ bv, Rnw wr h3 B k P S [(N : Int), P, g2, g3, g4, g5] (.slice po pn pc) bv) ∧ Hid (Ar wr h1 0 .i64 [(N : Int), P, g2, g3, g4, g5] ∧ Vr wr h2 [.int .i64 0, .int .i64 0, .int .i64 0, .int .i64 0, .int .i64 0, .int .i64 0, .slice none 0 0, .slice none 0 0, .bool false, .int .i64 0]) ∧ Hid (Below w.heap.size w wr)) (fun i _ => N - (intOf i).toNat)
 case atStart => exact ⟨0, Nat.zero_le _, rfl, HI, ⟨HP.out, HV2.out⟩, BB⟩
 case round =>
  obtain ⟨k, hk, rfl, HX, HY, HBe⟩ := hrel
  obtain ⟨wa, rfl⟩ : ∃ x, x = wr := ⟨_, rfl⟩
  clear HI HP HV2 BB
  have k0 : (0 : Int) ≤ (k : Int) := by omega
  have fg1 : wa.cell? ⟨h1, 0, none⟩ = some (.int .i64 (N : Int)) := HY.out.1.cell0 0 (by simp)
  obtain ⟨bv, b1, b2, b4, b5⟩ := HX.out
  obtain ⟨bq, bc, rfl⟩ : ∃ bq bc, bv = .slice bq k bc := by
   obtain ⟨gv, uv, z1, -⟩ := b2
   exact rws_form z1.rws (bks_len k _ _ _ _ _)
  have HB : Hid (Rnw wa h3 B k P S [(N : Int), P, g2, g3, g4, g5] (.slice po pn pc) (.slice bq k bc)) := ⟨b1, b2, b4, b5⟩
  clear HX b1 b2 b4 b5
  by_cases hlt : k < N
  ·have k1 : (k : Int) < (N : Int) := by omega
   go_wp2
   have HB : Hid (Rnw wa.drew h3 B k P S [(N : Int), P, g2, g3, g4, g5] (.slice po pn pc) (.slice bq k bc)) := HB.out.low (Below.refl _ _).drew
   have HY2 : Hid (Vr wa.drew h2 [.int .i64 0, .int .i64 0, .int .i64 0, .int .i64 0, .int .i64 0, .int .i64 0, .slice none 0 0, .slice none 0 0, .bool false, .int .i64 0]) := HY.out.2.heap rfl
   have HBe : Hid (Below w.heap.size w wa.drew) := HBe.out.drew
   refine wp_region_held_drew (S := fun w' => Ar w' h1 0 .i64 [(N : Int), P, g2, g3, g4, g5]) (by kernel_rfl) (HY.out.1.drewN 1) (fun hS => ?_)
   obtain ⟨x1, hx0⟩ : ∃ x, x = wa.drew := ⟨_, rfl⟩
   rw [← hx0] at hS HB HY2 HBe ⊢
   clear hx0
   refine tkG 0 (some 16) (.pointer (some ⟨h3, 6, none⟩)) rfl rfl hS ?_
   simp only [Act.put, zE1, zE2, zE3]
   refine tkH 2 (some 18) (.agg (ints .i64 [(N : Int), P, g2, g3, g4, g5])) rfl rfl (Or.inl ⟨by rfl, fun w' hw' => by exact exec_loadN 23 (.tmp 2) rfl _ rfl _ _ (ld_geo hg hw'.1)⟩) hS ?_
   simp only [Act.put, zE1, zE2, zE3]
   refine wpAnyH_ready (rs := [1, 3]) (by kernel_rfl) (by simp) ?_
   refine AllReadyH.cons rfl (fun K hK => ?_) (AllReadyH.cons rfl (fun K hK => ?_) AllReadyH.nil)
   ·refine step_load _ rfl (some 17) rfl (.tmp 16) 36 rfl _ (.slice bq k bc) rfl (load_one one_blks (HB.out.1.cell 6 _ rfl)) ?_
    refine hK.out _ _ hS (fun _ => ?_)
    simp only [Act.put, zE1, zE2, zE3]
    clear hK K
    refine rd1 3 rfl fun K hK => ?_
    refine ge.step_callW _ (by rfl) (some 19) rfl 40 #[.tmp 18] #[23] rfl (fun q w' => by rfl) #[.agg (ints .i64 [(N : Int), P, g2, g3, g4, g5])] (by simp only [zM1, zM2, zM3]; rfl) (fun v w' => ∃ gv uv, v = .agg (bkc gv uv (-1) false 0).toArray ∧ BlkO x1.heap.size w' gv uv P (fun _ => List.replicate S 255) (fun _ => 0) ∧ Below x1.heap.size x1 w') ?_ ?_
    ·refine (SB.out x1).mono ?_
     rintro e w' ⟨gv, uv, rfl, h1, h2⟩
     exact ⟨_, rfl, gv, uv, rfl, h1, h2⟩
    rintro v9 x2 ⟨gv9, uv9, rfl, y9, hb9⟩
    have z9 := HB.out.2.2.2
    have HB := hdH (HB.out.low hb9)
    have HY2 := hdH (HY2.out.below hb9 (range_lt HY2.out.1 (by simp)))
    have HBe := bT HBe hb9
    have hS : Ar x2 h1 0 .i64 [(N : Int), P, g2, g3, g4, g5] := hS.below hb9 (hS.lt (by simp))
    have HPG : Hid (BlkO B x2 gv9 uv9 P (fun _ => List.replicate S 255) (fun _ => 0)) := y9.base z9
    clear y9 hb9 z9
    refine hK.out _ _ hS (fun _ => ?_)
    simp only [Act.put, zE1, zE2, zE3]
    clear hK K
    refine rd1 4 rfl fun K hK => ?_
    refine step_one _ rfl (some 20) rfl (.tmp 19) 36 50 rfl (bkc gv9 uv9 (-1) false 0) rfl (fun w => build_blk _ _ _ _ _ w) ?_
    intro x3 r9 hb9
    obtain ⟨h9, e9⟩ : ∃ x, x = x2.heap.size := ⟨_, rfl⟩
    rw [← e9] at r9 ⊢
    have HB := hdH (HB.out.low hb9)
    have HY2 := hdH (HY2.out.below hb9 (range_lt HY2.out.1 (by simp)))
    have HBe := bT HBe hb9
    have hS : Ar x3 h1 0 .i64 [(N : Int), P, g2, g3, g4, g5] := hS.below hb9 (hS.lt (by simp))
    have HPG := hdH (HPG.out.low hb9)
    have RW := hdH (r9)
    clear r9 hb9 e9
    refine hK.out _ _ hS (fun _ => ?_)
    simp only [Act.put, zE1, zE2, zE3]
    clear hK K
    refine rd1 5 rfl fun K hK => ?_
    obtain ⟨c1, ⟨gv, uv, c2, c3⟩, c5, c6⟩ := HB.out
    refine step_appT _ rfl (some 21) rfl (.tmp 17) (.tmp 20) 36 50 rfl Try.underlying36 _ 5 72 info_blk rfl (by omega) _ _ (bks k gv uv (fun _ => (-1 : Int)) (fun _ => false) (fun _ => (0 : Int))) [bkc gv9 uv9 (-1) false 0] rfl rfl (c2.base (Nat.zero_le _)) RW.out (fun u hu => bkc_one (-1) false 0 HPG.out.one.1 HPG.out.one.2 u (by simpa using hu)) (by rw [bks_len]; simp; omega) (by rw [bks_len]; simp; omega) (by simp) ?_
    intro bv9 x4 o9 g9 f9
    have o9' := owr_up c2 o9 c6 f9
    have hgo : ∀ kk, (Value.slice bq k bc).ownBlock = some kk → B ≤ kk := fun kk hkk => (c2.1.lt kk hkk).1
    have hne3 : ∀ x, x < B → some x ≠ (Value.slice bq k bc).ownBlock := fun x hx e => by have := hgo x e.symm; omega
    have HG9 : Hid ((∃ gv uv : Nat → Value, OwR B x4 bv9 50 5 (bks (k + 1) gv uv (fun _ => (-1 : Int)) (fun _ => false) (fun _ => (0 : Int))) ∧ ∀ b, b < k + 1 → BlkO B x4 (gv b) (uv b) P (fun _ => List.replicate S 255) (fun _ => 0)) ∧ Vr x4 h3 (chr [(N : Int), P, g2, g3, g4, g5] (.slice bq k bc) (.slice po pn pc) false 0) ∧ B ≤ x4.heap.size) := by
     refine ⟨⟨at1 gv k gv9, at1 uv k uv9, ?_, fun b hb => ?_⟩, c1.kept g9 (range_lt c1.1 (by simp [chr])) (hne3 h3 c5), Nat.le_trans c6 g9.size⟩
     ·rw [bks_succ, at1_same, at1_same, bks_congr (fun b hb => at1_other gv k _ b (by omega)) (fun b hb => at1_other uv k _ b (by omega)) (fun _ _ => rfl) (fun _ _ => rfl) (fun _ _ => rfl)]
      exact o9'
     ·by_cases e : b = k
      ·subst e
       rw [at1_same, at1_same]
       exact HPG.out.ap c2.1 (by decide) (by decide) (by decide) g9
      ·rw [at1_other gv k _ b e, at1_other uv k _ b e]
       exact (c3 b (by omega)).ap c2.1 (by decide) (by decide) (by decide) g9
    have HY2 := hdH (HY2.out.kept g9 (range_lt HY2.out.1 (by simp)) (hne3 h2 (by have := HO.out; omega)))
    have HBe := hdH (HBe.out.trans ((Below.refl w.heap.size x3).grown g9 HBe.out.size (fun kk hkk => by have := hgo kk hkk; have := HO.out; omega)))
    have hS : Ar x4 h1 0 .i64 [(N : Int), P, g2, g3, g4, g5] := hS.heap (g9.block h1 (hS.lt (by simp)) (hne3 h1 (by have := HO.out; omega)))
    have hg1 : bv9.oneCell' = true := own_one o9
    have hg2 : bv9.cells = #[bv9] := own_cells o9
    clear c1 c2 c3 c5 c6 o9 o9' g9 f9 hgo hne3
    refine hK.out _ _ hS (fun _ => ?_)
    simp only [Act.put, zE1, zE2, zE3]
    clear hK K
    refine tkG 6 (some 22) (.pointer (some ⟨h3, 6, none⟩)) rfl rfl hS ?_
    simp only [Act.put, zE1, zE2, zE3]
    refine rd1 7 rfl fun K hK => ?_
    refine step_store1 _ rfl none rfl (.tmp 22) (.tmp 21) 36 rfl h3 6 bv9 rfl rfl (HG9.out.2.1.there1 6 (by simp [chr])) (HG9.out.2.1.free 6 (by simp [chr])) one_blks.2 hg1 hg2 ?_
    intro x5 e9
    have g9 : x4.grownBy x5 (some h3) := by rw [e9.out]; exact keep_set _ _ _ _
    obtain ⟨⟨gv', uv', d1, d2⟩, d4, d5⟩ := HG9.out
    have HB6 : Hid (∃ bv, Rnw x5 h3 B (k + 1) P S [(N : Int), P, g2, g3, g4, g5] (.slice po pn pc) bv) := by
     refine ⟨bv9, ?_, ⟨gv', uv', d1.kept g9 (own_ne fun kk hkk => by have := (d1.1.lt kk hkk).1; have := HO.out; omega), fun b hb => (d2 b hb).kept g9 (by have := HO.out; omega)⟩, by have := HO.out; omega, Nat.le_trans d5 g9.size⟩
     have := d4.set 6 (by simp [chr]) bv9
     rw [← e9.out] at this
     exact this
    have HY2 := hdH (HY2.out.kept g9 (range_lt HY2.out.1 (by simp)) (by have := HO.out; simp; omega))
    have HBe := hdH (HBe.out.trans ((Below.refl w.heap.size x4).grown g9 HBe.out.size (fun kk hkk => by injection hkk with hkk; have := HO.out; omega)))
    have hS : Ar x5 h1 0 .i64 [(N : Int), P, g2, g3, g4, g5] := hS.heap (g9.block h1 (hS.lt (by simp)) (by have := HO.out; simp; omega))
    clear e9 g9 d1 d2 d4 d5
    refine hK.out _ _ hS (fun _ => ?_)
    simp only [Act.put]
    clear hK K
    refine wpAnyH_done (by kernel_rfl) ?_ _
    have HP6 : Hid (Ar x5 h1 0 .i64 [(N : Int), P, g2, g3, g4, g5] ∧ Vr x5 h2 [.int .i64 0, .int .i64 0, .int .i64 0, .int .i64 0, .int .i64 0, .int .i64 0, .slice none 0 0, .slice none 0 0, .bool false, .int .i64 0]) := ⟨hS, HY2.out⟩
    clear hS
    go_wp2
    go_roundw
    case rel => exact ⟨k + 1, by omega, by go_num, HB6, HP6, HBe⟩
    case measure => simp [intOf]; omega
   ·refine ge.step_callW _ (by rfl) (some 19) rfl 40 #[.tmp 18] #[23] rfl (fun q w' => by rfl) #[.agg (ints .i64 [(N : Int), P, g2, g3, g4, g5])] (by simp only [zM1, zM2, zM3]; rfl) (fun v w' => ∃ gv uv, v = .agg (bkc gv uv (-1) false 0).toArray ∧ BlkO x1.heap.size w' gv uv P (fun _ => List.replicate S 255) (fun _ => 0) ∧ Below x1.heap.size x1 w') ?_ ?_
    ·refine (SB.out x1).mono ?_
     rintro e w' ⟨gv, uv, rfl, h1, h2⟩
     exact ⟨_, rfl, gv, uv, rfl, h1, h2⟩
    rintro v9 x6 ⟨gv9, uv9, rfl, y9, hb9⟩
    have z9 := HB.out.2.2.2
    have HB := hdH (HB.out.low hb9)
    have HY2 := hdH (HY2.out.below hb9 (range_lt HY2.out.1 (by simp)))
    have HBe := bT HBe hb9
    have hS : Ar x6 h1 0 .i64 [(N : Int), P, g2, g3, g4, g5] := hS.below hb9 (hS.lt (by simp))
    have HPG : Hid (BlkO B x6 gv9 uv9 P (fun _ => List.replicate S 255) (fun _ => 0)) := y9.base z9
    clear y9 hb9 z9
    refine hK.out _ _ hS (fun _ => ?_)
    simp only [Act.put, zE1, zE2, zE3]
    clear hK K
    refine wpAnyH_ready (rs := [1, 4]) (by kernel_rfl) (by simp) ?_
    refine AllReadyH.cons rfl (fun K hK => ?_) (AllReadyH.cons rfl (fun K hK => ?_) AllReadyH.nil)
    ·refine step_load _ rfl (some 17) rfl (.tmp 16) 36 rfl _ (.slice bq k bc) rfl (load_one one_blks (HB.out.1.cell 6 _ rfl)) ?_
     refine hK.out _ _ hS (fun _ => ?_)
     simp only [Act.put, zE1, zE2, zE3]
     clear hK K
     refine rd1 4 rfl fun K hK => ?_
     refine step_one _ rfl (some 20) rfl (.tmp 19) 36 50 rfl (bkc gv9 uv9 (-1) false 0) rfl (fun w => build_blk _ _ _ _ _ w) ?_
     intro x7 r9 hb9
     obtain ⟨h9, e9⟩ : ∃ x, x = x6.heap.size := ⟨_, rfl⟩
     rw [← e9] at r9 ⊢
     have HB := hdH (HB.out.low hb9)
     have HY2 := hdH (HY2.out.below hb9 (range_lt HY2.out.1 (by simp)))
     have HBe := bT HBe hb9
     have hS : Ar x7 h1 0 .i64 [(N : Int), P, g2, g3, g4, g5] := hS.below hb9 (hS.lt (by simp))
     have HPG := hdH (HPG.out.low hb9)
     have RW := hdH (r9)
     clear r9 hb9 e9
     refine hK.out _ _ hS (fun _ => ?_)
     simp only [Act.put, zE1, zE2, zE3]
     clear hK K
     refine rd1 5 rfl fun K hK => ?_
     obtain ⟨c1, ⟨gv, uv, c2, c3⟩, c5, c6⟩ := HB.out
     refine step_appT _ rfl (some 21) rfl (.tmp 17) (.tmp 20) 36 50 rfl Try.underlying36 _ 5 72 info_blk rfl (by omega) _ _ (bks k gv uv (fun _ => (-1 : Int)) (fun _ => false) (fun _ => (0 : Int))) [bkc gv9 uv9 (-1) false 0] rfl rfl (c2.base (Nat.zero_le _)) RW.out (fun u hu => bkc_one (-1) false 0 HPG.out.one.1 HPG.out.one.2 u (by simpa using hu)) (by rw [bks_len]; simp; omega) (by rw [bks_len]; simp; omega) (by simp) ?_
     intro bv9 x8 o9 g9 f9
     have o9' := owr_up c2 o9 c6 f9
     have hgo : ∀ kk, (Value.slice bq k bc).ownBlock = some kk → B ≤ kk := fun kk hkk => (c2.1.lt kk hkk).1
     have hne3 : ∀ x, x < B → some x ≠ (Value.slice bq k bc).ownBlock := fun x hx e => by have := hgo x e.symm; omega
     have HG9 : Hid ((∃ gv uv : Nat → Value, OwR B x8 bv9 50 5 (bks (k + 1) gv uv (fun _ => (-1 : Int)) (fun _ => false) (fun _ => (0 : Int))) ∧ ∀ b, b < k + 1 → BlkO B x8 (gv b) (uv b) P (fun _ => List.replicate S 255) (fun _ => 0)) ∧ Vr x8 h3 (chr [(N : Int), P, g2, g3, g4, g5] (.slice bq k bc) (.slice po pn pc) false 0) ∧ B ≤ x8.heap.size) := by
      refine ⟨⟨at1 gv k gv9, at1 uv k uv9, ?_, fun b hb => ?_⟩, c1.kept g9 (range_lt c1.1 (by simp [chr])) (hne3 h3 c5), Nat.le_trans c6 g9.size⟩
      ·rw [bks_succ, at1_same, at1_same, bks_congr (fun b hb => at1_other gv k _ b (by omega)) (fun b hb => at1_other uv k _ b (by omega)) (fun _ _ => rfl) (fun _ _ => rfl) (fun _ _ => rfl)]
       exact o9'
      ·by_cases e : b = k
       ·subst e
        rw [at1_same, at1_same]
        exact HPG.out.ap c2.1 (by decide) (by decide) (by decide) g9
       ·rw [at1_other gv k _ b e, at1_other uv k _ b e]
        exact (c3 b (by omega)).ap c2.1 (by decide) (by decide) (by decide) g9
     have HY2 := hdH (HY2.out.kept g9 (range_lt HY2.out.1 (by simp)) (hne3 h2 (by have := HO.out; omega)))
     have HBe := hdH (HBe.out.trans ((Below.refl w.heap.size x7).grown g9 HBe.out.size (fun kk hkk => by have := hgo kk hkk; have := HO.out; omega)))
     have hS : Ar x8 h1 0 .i64 [(N : Int), P, g2, g3, g4, g5] := hS.heap (g9.block h1 (hS.lt (by simp)) (hne3 h1 (by have := HO.out; omega)))
     have hg1 : bv9.oneCell' = true := own_one o9
     have hg2 : bv9.cells = #[bv9] := own_cells o9
     clear c1 c2 c3 c5 c6 o9 o9' g9 f9 hgo hne3
     refine hK.out _ _ hS (fun _ => ?_)
     simp only [Act.put, zE1, zE2, zE3]
     clear hK K
     refine tkG 6 (some 22) (.pointer (some ⟨h3, 6, none⟩)) rfl rfl hS ?_
     simp only [Act.put, zE1, zE2, zE3]
     refine rd1 7 rfl fun K hK => ?_
     refine step_store1 _ rfl none rfl (.tmp 22) (.tmp 21) 36 rfl h3 6 bv9 rfl rfl (HG9.out.2.1.there1 6 (by simp [chr])) (HG9.out.2.1.free 6 (by simp [chr])) one_blks.2 hg1 hg2 ?_
     intro x9 e9
     have g9 : x8.grownBy x9 (some h3) := by rw [e9.out]; exact keep_set _ _ _ _
     obtain ⟨⟨gv', uv', d1, d2⟩, d4, d5⟩ := HG9.out
     have HB6 : Hid (∃ bv, Rnw x9 h3 B (k + 1) P S [(N : Int), P, g2, g3, g4, g5] (.slice po pn pc) bv) := by
      refine ⟨bv9, ?_, ⟨gv', uv', d1.kept g9 (own_ne fun kk hkk => by have := (d1.1.lt kk hkk).1; have := HO.out; omega), fun b hb => (d2 b hb).kept g9 (by have := HO.out; omega)⟩, by have := HO.out; omega, Nat.le_trans d5 g9.size⟩
      have := d4.set 6 (by simp [chr]) bv9
      rw [← e9.out] at this
      exact this
     have HY2 := hdH (HY2.out.kept g9 (range_lt HY2.out.1 (by simp)) (by have := HO.out; simp; omega))
     have HBe := hdH (HBe.out.trans ((Below.refl w.heap.size x8).grown g9 HBe.out.size (fun kk hkk => by injection hkk with hkk; have := HO.out; omega)))
     have hS : Ar x9 h1 0 .i64 [(N : Int), P, g2, g3, g4, g5] := hS.heap (g9.block h1 (hS.lt (by simp)) (by have := HO.out; simp; omega))
     clear e9 g9 d1 d2 d4 d5
     refine hK.out _ _ hS (fun _ => ?_)
     simp only [Act.put]
     clear hK K
     refine wpAnyH_done (by kernel_rfl) ?_ _
     have HP6 : Hid (Ar x9 h1 0 .i64 [(N : Int), P, g2, g3, g4, g5] ∧ Vr x9 h2 [.int .i64 0, .int .i64 0, .int .i64 0, .int .i64 0, .int .i64 0, .int .i64 0, .slice none 0 0, .slice none 0 0, .bool false, .int .i64 0]) := ⟨hS, HY2.out⟩
     clear hS
     go_wp2
     go_roundw
     case rel => exact ⟨k + 1, by omega, by go_num, HB6, HP6, HBe⟩
     case measure => simp [intOf]; omega
    ·refine step_one _ rfl (some 20) rfl (.tmp 19) 36 50 rfl (bkc gv9 uv9 (-1) false 0) rfl (fun w => build_blk _ _ _ _ _ w) ?_
     intro x10 r9 hb9
     obtain ⟨h9, e9⟩ : ∃ x, x = x6.heap.size := ⟨_, rfl⟩
     rw [← e9] at r9 ⊢
     have HB := hdH (HB.out.low hb9)
     have HY2 := hdH (HY2.out.below hb9 (range_lt HY2.out.1 (by simp)))
     have HBe := bT HBe hb9
     have hS : Ar x10 h1 0 .i64 [(N : Int), P, g2, g3, g4, g5] := hS.below hb9 (hS.lt (by simp))
     have HPG := hdH (HPG.out.low hb9)
     have RW := hdH (r9)
     clear r9 hb9 e9
     refine hK.out _ _ hS (fun _ => ?_)
     simp only [Act.put, zE1, zE2, zE3]
     clear hK K
     refine rd1 1 rfl fun K hK => ?_
     refine step_load _ rfl (some 17) rfl (.tmp 16) 36 rfl _ (.slice bq k bc) rfl (load_one one_blks (HB.out.1.cell 6 _ rfl)) ?_
     refine hK.out _ _ hS (fun _ => ?_)
     simp only [Act.put, zE1, zE2, zE3]
     clear hK K
     refine rd1 5 rfl fun K hK => ?_
     obtain ⟨c1, ⟨gv, uv, c2, c3⟩, c5, c6⟩ := HB.out
     refine step_appT _ rfl (some 21) rfl (.tmp 17) (.tmp 20) 36 50 rfl Try.underlying36 _ 5 72 info_blk rfl (by omega) _ _ (bks k gv uv (fun _ => (-1 : Int)) (fun _ => false) (fun _ => (0 : Int))) [bkc gv9 uv9 (-1) false 0] rfl rfl (c2.base (Nat.zero_le _)) RW.out (fun u hu => bkc_one (-1) false 0 HPG.out.one.1 HPG.out.one.2 u (by simpa using hu)) (by rw [bks_len]; simp; omega) (by rw [bks_len]; simp; omega) (by simp) ?_
     intro bv9 x11 o9 g9 f9
     have o9' := owr_up c2 o9 c6 f9
     have hgo : ∀ kk, (Value.slice bq k bc).ownBlock = some kk → B ≤ kk := fun kk hkk => (c2.1.lt kk hkk).1
     have hne3 : ∀ x, x < B → some x ≠ (Value.slice bq k bc).ownBlock := fun x hx e => by have := hgo x e.symm; omega
     have HG9 : Hid ((∃ gv uv : Nat → Value, OwR B x11 bv9 50 5 (bks (k + 1) gv uv (fun _ => (-1 : Int)) (fun _ => false) (fun _ => (0 : Int))) ∧ ∀ b, b < k + 1 → BlkO B x11 (gv b) (uv b) P (fun _ => List.replicate S 255) (fun _ => 0)) ∧ Vr x11 h3 (chr [(N : Int), P, g2, g3, g4, g5] (.slice bq k bc) (.slice po pn pc) false 0) ∧ B ≤ x11.heap.size) := by
      refine ⟨⟨at1 gv k gv9, at1 uv k uv9, ?_, fun b hb => ?_⟩, c1.kept g9 (range_lt c1.1 (by simp [chr])) (hne3 h3 c5), Nat.le_trans c6 g9.size⟩
      ·rw [bks_succ, at1_same, at1_same, bks_congr (fun b hb => at1_other gv k _ b (by omega)) (fun b hb => at1_other uv k _ b (by omega)) (fun _ _ => rfl) (fun _ _ => rfl) (fun _ _ => rfl)]
       exact o9'
      ·by_cases e : b = k
       ·subst e
        rw [at1_same, at1_same]
        exact HPG.out.ap c2.1 (by decide) (by decide) (by decide) g9
       ·rw [at1_other gv k _ b e, at1_other uv k _ b e]
        exact (c3 b (by omega)).ap c2.1 (by decide) (by decide) (by decide) g9
     have HY2 := hdH (HY2.out.kept g9 (range_lt HY2.out.1 (by simp)) (hne3 h2 (by have := HO.out; omega)))
     have HBe := hdH (HBe.out.trans ((Below.refl w.heap.size x10).grown g9 HBe.out.size (fun kk hkk => by have := hgo kk hkk; have := HO.out; omega)))
     have hS : Ar x11 h1 0 .i64 [(N : Int), P, g2, g3, g4, g5] := hS.heap (g9.block h1 (hS.lt (by simp)) (hne3 h1 (by have := HO.out; omega)))
     have hg1 : bv9.oneCell' = true := own_one o9
     have hg2 : bv9.cells = #[bv9] := own_cells o9
     clear c1 c2 c3 c5 c6 o9 o9' g9 f9 hgo hne3
     refine hK.out _ _ hS (fun _ => ?_)
     simp only [Act.put, zE1, zE2, zE3]
     clear hK K
     refine tkG 6 (some 22) (.pointer (some ⟨h3, 6, none⟩)) rfl rfl hS ?_
     simp only [Act.put, zE1, zE2, zE3]
     refine rd1 7 rfl fun K hK => ?_
     refine step_store1 _ rfl none rfl (.tmp 22) (.tmp 21) 36 rfl h3 6 bv9 rfl rfl (HG9.out.2.1.there1 6 (by simp [chr])) (HG9.out.2.1.free 6 (by simp [chr])) one_blks.2 hg1 hg2 ?_
     intro x12 e9
     have g9 : x11.grownBy x12 (some h3) := by rw [e9.out]; exact keep_set _ _ _ _
     obtain ⟨⟨gv', uv', d1, d2⟩, d4, d5⟩ := HG9.out
     have HB6 : Hid (∃ bv, Rnw x12 h3 B (k + 1) P S [(N : Int), P, g2, g3, g4, g5] (.slice po pn pc) bv) := by
      refine ⟨bv9, ?_, ⟨gv', uv', d1.kept g9 (own_ne fun kk hkk => by have := (d1.1.lt kk hkk).1; have := HO.out; omega), fun b hb => (d2 b hb).kept g9 (by have := HO.out; omega)⟩, by have := HO.out; omega, Nat.le_trans d5 g9.size⟩
      have := d4.set 6 (by simp [chr]) bv9
      rw [← e9.out] at this
      exact this
     have HY2 := hdH (HY2.out.kept g9 (range_lt HY2.out.1 (by simp)) (by have := HO.out; simp; omega))
     have HBe := hdH (HBe.out.trans ((Below.refl w.heap.size x11).grown g9 HBe.out.size (fun kk hkk => by injection hkk with hkk; have := HO.out; omega)))
     have hS : Ar x12 h1 0 .i64 [(N : Int), P, g2, g3, g4, g5] := hS.heap (g9.block h1 (hS.lt (by simp)) (by have := HO.out; simp; omega))
     clear e9 g9 d1 d2 d4 d5
     refine hK.out _ _ hS (fun _ => ?_)
     simp only [Act.put]
     clear hK K
     refine wpAnyH_done (by kernel_rfl) ?_ _
     have HP6 : Hid (Ar x12 h1 0 .i64 [(N : Int), P, g2, g3, g4, g5] ∧ Vr x12 h2 [.int .i64 0, .int .i64 0, .int .i64 0, .int .i64 0, .int .i64 0, .int .i64 0, .slice none 0 0, .slice none 0 0, .bool false, .int .i64 0]) := ⟨hS, HY2.out⟩
     clear hS
     go_wp2
     go_roundw
     case rel => exact ⟨k + 1, by omega, by go_num, HB6, HP6, HBe⟩
     case measure => simp [intOf]; omega
  ·have e : N = k := by omega
   subst e
   have r0 := HB.out.1.cell 0 _ rfl
   have r1 := HB.out.1.cell 1 _ rfl
   have r2 := HB.out.1.cell 2 _ rfl
   have r3 := HB.out.1.cell 3 _ rfl
   have r4 := HB.out.1.cell 4 _ rfl
   have r5 := HB.out.1.cell 5 _ rfl
   have r6 := HB.out.1.cell 6 _ rfl
   have r7 := HB.out.1.cell 7 _ rfl
   have r8 := HB.out.1.cell 8 _ rfl
   have r9 := HB.out.1.cell 9 _ rfl
   have t2 := tR
   go_wp2_with (first
    | (have q2 := t2; refine store_lawC _ (chr [(N : Int), P, g2, g3, g4, g5] (.slice bq N bc) (.slice po pn pc) false 0) h2 0 rfl rfl HY.out.2.2 rowy_chipR.2 chrO ?_; intro w9 E9 R9 T9 B9
       have HR9 := hdH (R9)
       have g9 : wa.grownBy w9 (some h2) := by rw [E9.out]; exact keep_cells _ _ _ _
       have HE9 : Hid (∃ gv uv : Nat → Value, OwR w.heap.size w9 (.slice bq N bc) 50 5 (bks N gv uv (fun _ => (-1 : Int)) (fun _ => false) (fun _ => (0 : Int))) ∧ ∀ b, b < N → BlkO w.heap.size w9 (gv b) (uv b) P (fun _ => List.replicate S 255) (fun _ => 0)) := by
        obtain ⟨c1, ⟨gv, uv, c2, c3⟩, c5, c6⟩ := HB.out
        exact ⟨gv, uv, (c2.kept g9 (own_ne fun kk hkk => by have := (c2.1.lt kk hkk).1; have := HO.out; omega)).base (by have := HO.out; omega), fun b hb => ((c3 b hb).kept g9 (by have := HO.out; omega)).base (by have := HO.out; omega)⟩
       have HB9 := hdH (HBe.out.trans (B9.mono (by have := HO.out; omega)))
       clear R9 T9 E9 B9 g9 t2))
   exact bodyPost_ret (v := .agg (chr [(N : Int), P, g2, g3, g4, g5] (.slice bq N bc) (.slice po pn pc) false 0).toArray) (results_c rfl _ _ h2 _ rowy_chipR rfl HR9.out) rfl ⟨_, rfl, HE9.out, HB9.out⟩
end Go.Proofs.Ytikcohjhhoiakaa.na
