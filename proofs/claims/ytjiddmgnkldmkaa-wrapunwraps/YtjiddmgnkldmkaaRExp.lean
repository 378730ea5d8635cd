/- What the reference's Expand answers: a key's sixty words. No claim of its own. -/
import Derived.Test.YtjiddmgnkldmkaaRTab
import Derived.Test.YtjiddmgnkldmkaaRLaw
import Derived.Deep.DeepCutAuto
namespace Go.Proofs.Ytjiddmgnkldmkaa
open Go.RowKit

/-- 'b[l:h]', its address told -/
theorem cut_exact {ops : Array Oper} {rest : List Oper} {o : Oper} {a : Act} {Q : Exit → Act → World → Prop} (w : World) (hg : o.guard = none) (s x y : Operand) (hop : o.op = Op.slice 22 s (some x) (some y) none) (b off n cap l h m : Nat) (L H : Int)
    (hs : a.eval s = .slice (some ⟨b, off, none⟩) n cap) (hx : a.eval x = .int .i64 L) (hy : a.eval y = .int .i64 H) (hL : L = (l : Int)) (hH : H = (h : Int)) (hl : l < h) (hh : h ≤ cap) (hm : h - l = m)
    (hK : wpList Try.prog ops Q rest (a.put o.dst (.slice (some ⟨b, off + l, none⟩) m (cap - l))) w) :
    wpList Try.prog ops Q (o :: rest) a w := by
  refine wpList_plain hg fun K hK' => ?_
  have hrun := run_slice_lh (P := Try.prog) w 22 (some ⟨b, off, none⟩) n cap und_bytes .i64 .i64 L H (by omega) (by omega) (by omega)
  rw [elem_bytes, run_size_u8] at hrun
  subst hL
  subst hH
  subst hm
  have e : sliced (some ⟨b, off, none⟩) l h cap 1 = .slice (some ⟨b, off + l, none⟩) (h - l) (cap - l) := by
    unfold sliced
    rw [if_neg (by omega)]
    simp [Addr.add_lit]
  simp only [Result.andThen, Int.toNat_natCast, e] at hrun
  unfold Oper.wp
  simp [execOp, hop, hs, hx, hy, run_sliceAt_slice w 22 _ _ _ _ und_bytes, hrun, Result.andThen]
  exact hK' _ _ hK

/-- a slice of a key's sixty words -/
def Wds (w : World) (v : Value) (key : List Int) : Prop :=
  ∃ g cap, v = .slice (some ⟨g, 0, none⟩) 60 cap ∧ 60 ≤ cap ∧ cap ≤ 9223372036854775807 ∧ ∀ t, t < 60 → ∃ u, w.cell? ⟨g, t, none⟩ = some u ∧ Byt w u (wd key t)
theorem Wds.below {w w' : World} {v : Value} {key : List Int} (h : Wds w v key) (hb : Below w.heap.size w w') : Wds w' v key := by
  obtain ⟨g, cap, rfl, h1, h2, h3⟩ := h
  refine ⟨g, cap, rfl, h1, h2, fun t ht => ?_⟩
  obtain ⟨u, hu, hy⟩ := h3 t ht
  exact ⟨u, by rw [hb.cell (World.block_lt_of_cell? w _ hu)]; exact hu, hy.below hb⟩

theorem gb4 (a b c d : Int) : gb [a, b, c, d] 0 = a ∧ gb [a, b, c, d] 1 = b ∧ gb [a, b, c, d] 2 = c ∧ gb [a, b, c, d] 3 = d := ⟨rfl, rfl, rfl, rfl⟩

set_option linter.unusedSimpArgs false in
set_option maxRecDepth 20000 in
set_option maxHeartbeats 8000000 in
theorem rexpand_any (kv tv : Value) (key : List Int) (w : World) (hv : Byt w kv key) (hl : key.length = 32) (ht : Byt w tv ptab) :
    Calls Try.prog 38 #[kv, tv] w fun e w' => ∃ v, e = .returned v ∧ Wds w' v key ∧ Below w.heap.size w w' := by
  have hka := hv.all
  obtain ⟨ao, ca, rfl, ha1, ha2, -, -, ha5⟩ := hv
  obtain ⟨bb, bo, rfl, hcell⟩ := ha5 (by omega)
  obtain ⟨to_, ta, rfl, ht1, ht2, -, -, ht5⟩ := ht
  rw [ptab_len] at ht1 ht5 ⊢
  obtain ⟨tb, tf, rfl, htc⟩ := ht5 (by omega)
  have HC : Hid (∀ t, t < 32 → w.cell? ⟨bb, bo + t, none⟩ = some (.int .u8 (gb key t))) := fun t ht => hcell t (by omega)
  have hbw : bb < w.heap.size := World.block_lt_of_cell? w _ (hcell 0 (by omega))
  have HT : Hid (∀ t, t < 256 → w.cell? ⟨tb, tf + t, none⟩ = some (.int .u8 (gb ptab t))) := htc
  have htw : tb < w.heap.size := World.block_lt_of_cell? w _ (htc 0 (by omega))
  have HW : Hid (∀ i, Wd (wd key i)) := wd_wd key hl hka
  have HWLo : Hid (∀ i, i < 8 → wd key i = cut4 key i) := fun i hi => by rw [wd_eq, if_pos hi]
  have HWHi : Hid (∀ i, 8 ≤ i → wd key i = xorl (wd key (i - 8)) (mid i (wd key (i - 1)))) := fun i hi => by rw [wd_eq, if_neg (by omega)]
  rw [hl] at ha1 ⊢
  clear hcell ha5 htc ht5 hka hl
  go_enter Try.func38, Try.ntmps38
  go_wp2
  go_loopw [5, 6] (fun v i wr => ∃ (k : Nat) (us : List Value), k ≤ 60 ∧ i = .int .i64 k ∧ us.length = k ∧ OwnS w.heap.size wr v us ∧ (∀ t, t < k → ∃ u, us[t]? = some u ∧ Wrd4 w.heap.size wr u (wd key t)) ∧ Below w.heap.size w wr) (fun _ i _ => 60 - (intOf i).toNat)
  case atStart => exact ⟨0, [], Nat.zero_le _, rfl, rfl, OwnS.empty w (Nat.le_refl _), fun t ht => by omega, (Below.refl _ _).alloc (Nat.le_refl _) _⟩
  case round =>
    obtain ⟨k, us, hk, rfl, hul, hown, hws, hbel⟩ := hrel
    have hsz := hbel.size
    have k0 : (0 : Int) ≤ (k : Int) := by omega
    have q1 : IntKind.i64.wrap (k : Int) = k := by rw [IntKind.wrap_i64]; omega
    by_cases hlt : k < 60
    · have k1 : (k : Int) < 60 := by omega
      have HO : Hid (OwnS w.heap.size wr u5 us) := hown
      have HU : Hid (us.length = k) := hul
      have HS : Hid (∀ t, t < k → ∃ u, us[t]? = some u ∧ Wrd4 w.heap.size wr u (wd key t)) := hws
      by_cases h8 : k < 8
      · have k2 : (k : Int) < 8 := by omega
        have r1 : IntKind.i64.wrap (4 * (k : Int)) = 4 * (k : Int) := by rw [IntKind.wrap_i64]; omega
        have r2 : IntKind.i64.wrap (4 * (k : Int) + 4) = 4 * (k : Int) + 4 := by rw [IntKind.wrap_i64]; omega
        have W4 : Hid (Wrd4 w.heap.size wr (.slice (some ⟨bb, bo + 4 * k, none⟩) 4 (ca - 4 * k)) (wd key k)) := by
          refine ⟨bb, bo + 4 * k, ca - 4 * k, rfl, by omega, by omega, Or.inl hbw, fun j hj => ?_⟩
          rw [HWLo.out k h8, cut4_gb _ _ _ hj, Nat.add_assoc, hbel.cell hbw]
          exact HC.out (4 * k + j) (by omega)
        clear hown hul hws
        go_wp2_with (first
          | (refine cut_exact _ rfl (.tmp 16) (.tmp 18) (.tmp 21) rfl bb bo 32 ca (4 * k) (4 * k + 4) 4 _ _ rfl rfl rfl (by omega) (by omega) (by omega) (by omega) (by omega) ?_)
          | (at_builtin; refine push_lawS wr rfl (.tmp 15) (.tmp 23) rfl w.heap.size hsz _ us _ rfl rfl rfl HO.out (by rw [HU.out]; omega) ?_; intro v' w1 O1 b1 g1; have HO1 : Hid (OwnS w.heap.size w1 v' (us ++ [_])) := O1; have HG1 : Hid (∀ u' y, Wrd4 w.heap.size wr u' y → Wrd4 w.heap.size w1 u' y) := g1; clear O1 g1))
        go_roundw
        case rel =>
          refine ⟨k + 1, _, by omega, by go_num, ?_, HO1.out, fun t ht => ?_, hbel.trans b1⟩
          · rw [List.length_append, HU.out]; rfl
          · by_cases htk : t < k
            · obtain ⟨u, h1, h2⟩ := HS.out t htk
              exact ⟨u, by rw [List.getElem?_append_left (by rw [HU.out]; exact htk)]; exact h1, HG1.out _ _ h2⟩
            · have : t = k := by omega
              subst this
              exact ⟨_, by rw [List.getElem?_append_right (by rw [HU.out]; omega), HU.out, Nat.sub_self]; rfl, HG1.out _ _ W4.out⟩
        case measure => simp [intOf]; omega
      · have k2 : ¬ (k : Int) < 8 := by omega
        obtain ⟨g, cap, cur, rfl, hg1, hg2, hg3, -, hcl⟩ := hown.at_ (by omega)
        obtain ⟨un, hun1, hun2⟩ := hws (k - 1) (by omega)
        obtain ⟨ue, hue1, hue2⟩ := hws (k - 8) (by omega)
        have cn := hcl (k - 1) un hun1
        have ce := hcl (k - 8) ue hue1
        have hgl : g < wr.heap.size := World.block_lt_of_cell? wr _ cn
        obtain ⟨j1, hj1⟩ : ∃ j, j = k - 1 := ⟨_, rfl⟩
        obtain ⟨j8, hj8⟩ : ∃ j, j = k - 8 := ⟨_, rfl⟩
        rw [← hj1] at cn hun2
        rw [← hj8] at ce hue2
        have s1 : (k : Int) - 1 = (j1 : Int) := by omega
        have s8 : (k : Int) - 8 = (j8 : Int) := by omega
        have p1 : IntKind.i64.wrap (j1 : Int) = j1 := by rw [IntKind.wrap_i64]; omega
        have p8 : IntKind.i64.wrap (j8 : Int) = j8 := by rw [IntKind.wrap_i64]; omega
        have z1 : (0 : Int) ≤ (j1 : Int) := by omega
        have z8 : (0 : Int) ≤ (j8 : Int) := by omega
        have l1 : (j1 : Int) < (k : Int) := by omega
        have l8 : (j8 : Int) < (k : Int) := by omega
        have YN : Hid (Byt (wr.alloc (.cells #[] 5)) un (wd key j1)) := (hun2.byt (HW.out j1)).below ((Below.refl _ _).alloc (Nat.le_refl _) _)
        have cn2 : (wr.alloc (.cells #[] 5)).cell? ⟨g, j1, none⟩ = some un := by rw [World.cell?_alloc_past _ _ _ hgl]; exact cn
        have HWE : Hid (wd key k = xorl (wd key j8) (mid k (wd key j1))) := by
          have := HWHi.out k (by omega)
          rw [← hj8, ← hj1] at this
          exact this
        have HUE : Hid (Wrd4 w.heap.size wr ue (wd key j8)) := hue2
        have HCE : Hid (wr.cell? ⟨g, j8, none⟩ = some ue) := ce
        have W1 : Hid (Wd (wd key j1)) := HW.out j1
        have WL : Hid ((wd key j1).length = 4) := (HW.out j1).1
        rw [hul] at hg1 HO
        rw [hul]
        clear hown hul hws hcl hun1 hue1 hun2 hue2 ce cn hj1 hj8
        have W8 : Hid ((wd key j8).length = 4) := (HW.out j8).1
        obtain ⟨MM, hMM⟩ : ∃ M, M = mid k (wd key j1) := ⟨_, rfl⟩
        have HMM : Hid (MM = mid k (wd key j1)) := hMM
        have ML : Hid (MM.length = 4) := by rw [hMM]; exact (mid_wd k _ (HW.out j1)).1
        have MA : Hid (AllB MM) := by rw [hMM]; exact (mid_wd k _ (HW.out j1)).2
        rw [← hMM] at HWE
        clear hMM
        by_cases hm0 : k % 8 = 0
        · have t0 : (k : Int) % 8 = 0 := by omega
          have t0' : (k : Int).tmod 8 = 0 := by rw [Int.tmod_eq_emod_of_nonneg (by omega)]; omega
          obtain ⟨d, hd⟩ : ∃ d, d = k / 8 - 1 := ⟨_, rfl⟩
          have e1 : (k : Int).tdiv 8 = (d : Int) + 1 := by rw [Int.tdiv_eq_ediv_of_nonneg (by omega)]; omega
          have e1' : (k : Int) / 8 = (d : Int) + 1 := by omega
          have e2 : IntKind.i64.wrap ((d : Int) + 1) = (d : Int) + 1 := by rw [IntKind.wrap_i64]; omega
          have e3 : IntKind.i64.wrap (d : Int) = (d : Int) := by rw [IntKind.wrap_i64]; omega
          have RP : Hid (∀ w0, Calls Try.prog 63 #[.int .u8 2, .int .i64 d] w0 fun e w' => e = .returned (.int .u8 (pw 2 d)) ∧ w' = w0) := fun w0 => rpow_any 2 d w0 (by omega) (by omega)
          have PB : Hid (pw 2 d < 256) := pw_lt 2 d
          go_wp2_with ((at_builtin; have q0 := YN; refine pushs_lawG _ rfl (.tmp 25) (.tmp 30) rfl wr.heap.size (by simp) _ _ [] (wd key j1) rfl rfl (Own.empty wr (Nat.le_refl _)) YN.out (by simp) (by rw [WL.out]; omega) ?_; intro v1 w1 o1 b1; have HO1 : Hid (Own wr.heap.size w1 v1 (wd key j1)) := o1; have B1 : Hid (Below wr.heap.size wr w1) := (((Below.refl _ _).alloc (Nat.le_refl _) _)).trans b1; have ce1 : w1.cell? ⟨g, j8, none⟩ = some ue := (B1.out.cell hgl).trans HCE.out; clear o1 b1 YN))
          obtain ⟨xa, xc, rfl, hx1, hx2, -, -, hx5⟩ := HO1.out.byt (HW.out j1).2
          obtain ⟨xb, xo, rfl, hxc⟩ := hx5 (by rw [WL.out]; omega)
          rw [WL.out] at hx1 hxc
          rw [WL.out]
          have htw1 : tb < wr.heap.size := by omega
          have fx : ∀ t, t < 4 → ∃ x y, x < 256 ∧ w1.cell? ⟨xb, xo + t, none⟩ = some (.int .u8 ((x : Nat) : Int)) ∧ w1.cell? ⟨tb, tf + x, none⟩ = some (.int .u8 y) ∧ y = gb ptab (gb (wd key j1) t).toNat := fun t ht => by
            have hb := (HW.out j1).2 t
            refine ⟨(gb (wd key j1) t).toNat, _, by omega, ?_, ?_, rfl⟩
            · rw [hxc t ht]
              have : gb (wd key j1) t = (((gb (wd key j1) t).toNat : Nat) : Int) := by omega
              rw [← this]
            · rw [B1.out.cell htw1, hbel.cell htw]
              exact HT.out _ (by omega)
          obtain ⟨x0, y0, b0, cx0, ct0, e0⟩ := fx 0 (by omega)
          obtain ⟨x1, y1, b1, cx1, ct1, e1⟩ := fx 1 (by omega)
          obtain ⟨x2, y2, b2, cx2, ct2, e2⟩ := fx 2 (by omega)
          obtain ⟨x3, y3, b3, cx3, ct3, e3⟩ := fx 3 (by omega)
          rw [Nat.add_zero] at cx0
          have xz0 : (0 : Int) ≤ (x0 : Int) := by omega
          have xz1 : (0 : Int) ≤ (x1 : Int) := by omega
          have xz2 : (0 : Int) ≤ (x2 : Int) := by omega
          have xz3 : (0 : Int) ≤ (x3 : Int) := by omega
          have xl0 : (x0 : Int) < 256 := by omega
          have xl1 : (x1 : Int) < 256 := by omega
          have xl2 : (x2 : Int) < 256 := by omega
          have xl3 : (x3 : Int) < 256 := by omega
          have HEY : Hid (y0 = gb ptab (gb (wd key j1) 0).toNat ∧ y1 = gb ptab (gb (wd key j1) 1).toNat ∧ y2 = gb ptab (gb (wd key j1) 2).toNat ∧ y3 = gb ptab (gb (wd key j1) 3).toNat) := ⟨e0, e1, e2, e3⟩
          clear fx hxc hx5 e0 e1 e2 e3 b0 b1 b2 b3
          refine wp_region_any (by kernel_rfl) ?_
          change wpAny _ _ _ _ _ _ _ (World.drew _)
          refine wpAny_quiet_then (C := fun w' => ∃ n, w' = w1.drewN n) 0 24 2 _ (by kernel_rfl) rfl (by kernel_rfl) (by kernel_rfl) ⟨1, rfl⟩ ?_
          simp only [List.take_succ_cons, List.take_zero, List.drop_zero]
          repeat (quiet_step (fail))
          refine wpQuiet_nil ?_
          rintro f _ ⟨nq, rfl⟩
          refine wpAny_ready (rs := [24]) (by kernel_rfl) (by simp) ?_
          refine AllReady.cons rfl (fun K hK => ?_) AllReady.nil
          refine step_build4 _ rfl (some 59) rfl (.tmp 40) (.tmp 46) (.tmp 52) (.tmp 58) rfl y1 y2 y3 y0 rfl rfl rfl rfl fun w2 A2 b2 s2 => hK _ _ ?_
          simp only [Act.put, List.setIfInBounds_toArray, List.set_cons_zero, List.set_cons_succ]
          have HA2 : Hid (Ar w2 w1.heap.size 0 .u8 [y1, y2, y3, y0]) := A2
          have hb2 : Below w1.heap.size w1 w2 := (below_drewN (Below.refl _ _) nq).trans b2
          have hs2 : w1.heap.size < w2.heap.size := s2
          clear A2 b2 s2
          refine wpAny_ready (rs := [25]) (by kernel_rfl) (by simp) ?_
          refine AllReady.cons rfl (fun K hK => ?_) AllReady.nil
          refine step_movG _ rfl (some 7) rfl (.tmp 59) rfl (.slice (some ⟨w1.heap.size, 0, none⟩) 4 4) rfl (hK _ _ ?_)
          simp only [Act.put, List.setIfInBounds_toArray, List.set_cons_zero, List.set_cons_succ]
          refine wpAny_done (by kernel_rfl) ?_ _
          have w2w : Below wr.heap.size wr w2 := B1.out.trans (hb2.mono B1.out.size)
          have MG : Hid ((([y1, y2, y3, y0] : List Int).set 0 (xr y1 (pw 2 d : Int))) = MM) := by
            show _ = _
            obtain ⟨f0, f1, f2, f3⟩ := HEY.out
            rw [HMM.out, mid, if_pos hm0, ← hd, f0, f1, f2, f3]
            rfl
          have hxr : bits .xor .u8 y1 (pw 2 d : Int) = xr y1 (pw 2 d : Int) := by
            have h1 := pAll (gb (wd key j1) 1).toNat
            rw [← HEY.out.2.1] at h1
            have h2 := PB.out
            exact xr_of _ _ h1 (by omega)
          have cy := HA2.out.cell0 0 (by simp)
          rw [(gb4 y1 y2 y3 y0).1] at cy
          clear hd
          generalize xr y1 (pw 2 d : Int) = zz at *
          generalize pw 2 d = pp at *
          go_wp2
          refine wp_region_any (by kernel_rfl) ?_
          change wpAny _ _ _ _ _ _ _ (World.drew _)
          refine wpAny_quiet_then (C := fun w' => ∃ n, w' = w2.drewN n) 0 10 1 _ (by kernel_rfl) rfl (by kernel_rfl) (by kernel_rfl) ⟨1, rfl⟩ ?_
          simp only [List.take_succ_cons, List.take_zero, List.drop_zero]
          repeat (quiet_step (with_reducible exact Calls.quiet_of_same (RP.out _)))
          refine wpQuiet_nil ?_
          rintro f _ ⟨n2, rfl⟩
          have A3 := HA2.out.drewN n2
          have A4 := A3.set0 0 (by simp) zz
          rw [MG.out] at A4
          have b4 : Below w1.heap.size w1 ((w2.drewN n2).setCell ⟨w1.heap.size, 0, none⟩ (.int .u8 zz)) := (below_drewN hb2 n2).setCell (Nat.le_refl _) _
          refine wpAny_ready (rs := [10]) (by kernel_rfl) (by simp) ?_
          refine AllReady.cons rfl (fun K hK => ?_) AllReady.nil
          refine step_set _ rfl none rfl (.tmp 69) (.tmp 68) 5 rfl .u8 zz w1.heap.size 0 rfl (by first | rfl | (rw [← hxr]; rfl)) (by rw [A3.cell0 0 (by simp)]; rfl) (A3.free0 0 (by simp)) i_u8 (hK _ _ ?_)
          simp only [Act.put, List.setIfInBounds_toArray, List.set_cons_zero, List.set_cons_succ]
          obtain ⟨wj, hwj⟩ : ∃ x, x = (w2.drewN n2).setCell ⟨w1.heap.size, 0, none⟩ (.int .u8 zz) := ⟨_, rfl⟩
          rw [← hwj] at A4 b4 ⊢
          clear hwj A3 cy
          have BJ : Hid (Below wr.heap.size wr wj) := B1.out.trans (b4.mono B1.out.size)
          have XV : Hid (Byt wj (.slice (some ⟨w1.heap.size, 0, none⟩) 4 4) MM) := A4.bytG MA.out 4 4 ML.out (by omega) (by omega)
          have UJ : Hid (Byt wj ue (wd key j8)) := (HUE.out.below BJ.out).byt (HW.out j8)
          have cj : wj.cell? ⟨g, j8, none⟩ = some ue := (BJ.out.cell hgl).trans HCE.out
          clear A4 b4
          refine wpAny_done (by kernel_rfl) ?_ _
          go_wp2_with (first
            | (go_at_call 39; refine (rxor_own _ _ (wd key j8) MM _ (UJ.out) (XV.out) (by rw [W8.out, ML.out]) (by rw [W8.out]; omega)).mono ?_; rintro e w5 ⟨v5, rfl, o5, b5⟩; have B5 : Hid (Below wr.heap.size wr w5) := BJ.out.trans (b5.mono BJ.out.size); have W5 : Wrd4 w.heap.size w5 v5 (wd key k) := (by have h := o5; rw [← HWE.out] at h; exact h.wrd4 (HW.out k)); obtain ⟨b5_, of5, cp5, rfl, r5⟩ := W5; have W5 : Hid (Wrd4 w.heap.size w5 (.slice (some ⟨b5_, of5, none⟩) 4 cp5) (wd key k)) := ⟨b5_, of5, cp5, rfl, r5⟩; have z5 : w.heap.size ≤ w5.heap.size := Nat.le_trans hsz B5.out.size; clear o5 b5 r5)
            | (at_builtin; have q5 := z5; refine push_lawS w5 rfl (.tmp 98) (.tmp 106) rfl w.heap.size z5 _ us _ rfl rfl rfl (by rw [HU.out] at *; exact HO.out.below B5.out) (by rw [HU.out]; omega) ?_; intro v6 w6 O6 b6 g6; have HO6 : Hid (OwnS w.heap.size w6 v6 (us ++ [_])) := O6; have HG6 : Hid (∀ u' y, Wrd4 w.heap.size w5 u' y → Wrd4 w.heap.size w6 u' y) := g6; clear O6 g6))
          go_roundw
          case rel =>
            refine ⟨k + 1, _, by omega, by go_num, ?_, HO6.out, fun t ht => ?_, hbel.trans ((B5.out.mono hsz).trans b6)⟩
            · rw [List.length_append, HU.out]; rfl
            · by_cases htk : t < k
              · obtain ⟨u, h1, h2⟩ := HS.out t htk
                exact ⟨u, by rw [List.getElem?_append_left (by rw [HU.out]; exact htk)]; exact h1, HG6.out _ _ (h2.below B5.out)⟩
              · have : t = k := by omega
                subst this
                exact ⟨_, by rw [List.getElem?_append_right (by rw [HU.out]; omega), HU.out, Nat.sub_self]; rfl, HG6.out _ _ W5.out⟩
          case measure => simp [intOf]; omega
        · by_cases hm4 : k % 8 = 4
          · have t0 : (k : Int) % 8 = 4 := by omega
            have t0' : (k : Int).tmod 8 = 4 := by rw [Int.tmod_eq_emod_of_nonneg (by omega)]; omega
            go_wp2_with ((at_builtin; have q0 := YN; refine pushs_lawG _ rfl (.tmp 25) (.tmp 30) rfl wr.heap.size (by simp) _ _ [] (wd key j1) rfl rfl (Own.empty wr (Nat.le_refl _)) YN.out (by simp) (by rw [WL.out]; omega) ?_; intro v1 w1 o1 b1; have HO1 : Hid (Own wr.heap.size w1 v1 (wd key j1)) := o1; have B1 : Hid (Below wr.heap.size wr w1) := (((Below.refl _ _).alloc (Nat.le_refl _) _)).trans b1; have ce1 : w1.cell? ⟨g, j8, none⟩ = some ue := (B1.out.cell hgl).trans HCE.out; clear o1 b1 YN))
            obtain ⟨xa, xc, rfl, hx1, hx2, -, -, hx5⟩ := HO1.out.byt (HW.out j1).2
            obtain ⟨xb, xo, rfl, hxc⟩ := hx5 (by rw [WL.out]; omega)
            rw [WL.out] at hx1 hxc
            rw [WL.out]
            have htw1 : tb < wr.heap.size := by omega
            have fx : ∀ t, t < 4 → ∃ x y, x < 256 ∧ w1.cell? ⟨xb, xo + t, none⟩ = some (.int .u8 ((x : Nat) : Int)) ∧ w1.cell? ⟨tb, tf + x, none⟩ = some (.int .u8 y) ∧ y = gb ptab (gb (wd key j1) t).toNat := fun t ht => by
              have hb := (HW.out j1).2 t
              refine ⟨(gb (wd key j1) t).toNat, _, by omega, ?_, ?_, rfl⟩
              · rw [hxc t ht]
                have : gb (wd key j1) t = (((gb (wd key j1) t).toNat : Nat) : Int) := by omega
                rw [← this]
              · rw [B1.out.cell htw1, hbel.cell htw]
                exact HT.out _ (by omega)
            obtain ⟨x0, y0, b0, cx0, ct0, e0⟩ := fx 0 (by omega)
            obtain ⟨x1, y1, b1, cx1, ct1, e1⟩ := fx 1 (by omega)
            obtain ⟨x2, y2, b2, cx2, ct2, e2⟩ := fx 2 (by omega)
            obtain ⟨x3, y3, b3, cx3, ct3, e3⟩ := fx 3 (by omega)
            rw [Nat.add_zero] at cx0
            have xz0 : (0 : Int) ≤ (x0 : Int) := by omega
            have xz1 : (0 : Int) ≤ (x1 : Int) := by omega
            have xz2 : (0 : Int) ≤ (x2 : Int) := by omega
            have xz3 : (0 : Int) ≤ (x3 : Int) := by omega
            have xl0 : (x0 : Int) < 256 := by omega
            have xl1 : (x1 : Int) < 256 := by omega
            have xl2 : (x2 : Int) < 256 := by omega
            have xl3 : (x3 : Int) < 256 := by omega
            have HEY : Hid (y0 = gb ptab (gb (wd key j1) 0).toNat ∧ y1 = gb ptab (gb (wd key j1) 1).toNat ∧ y2 = gb ptab (gb (wd key j1) 2).toNat ∧ y3 = gb ptab (gb (wd key j1) 3).toNat) := ⟨e0, e1, e2, e3⟩
            clear fx hxc hx5 e0 e1 e2 e3 b0 b1 b2 b3
            refine wp_region_any (by kernel_rfl) ?_
            change wpAny _ _ _ _ _ _ _ (World.drew _)
            refine wpAny_quiet_then (C := fun w' => ∃ n, w' = w1.drewN n) 0 24 2 _ (by kernel_rfl) rfl (by kernel_rfl) (by kernel_rfl) ⟨1, rfl⟩ ?_
            simp only [List.take_succ_cons, List.take_zero, List.drop_zero]
            repeat (quiet_step (fail))
            refine wpQuiet_nil ?_
            rintro f _ ⟨nq, rfl⟩
            refine wpAny_ready (rs := [24]) (by kernel_rfl) (by simp) ?_
            refine AllReady.cons rfl (fun K hK => ?_) AllReady.nil
            refine step_build4 _ rfl (some 97) rfl (.tmp 78) (.tmp 84) (.tmp 90) (.tmp 96) rfl y0 y1 y2 y3 rfl rfl rfl rfl fun w2 A2 b2 s2 => hK _ _ ?_
            simp only [Act.put, List.setIfInBounds_toArray, List.set_cons_zero, List.set_cons_succ]
            have HA2 : Hid (Ar w2 w1.heap.size 0 .u8 [y0, y1, y2, y3]) := A2
            have hb2 : Below w1.heap.size w1 w2 := (below_drewN (Below.refl _ _) nq).trans b2
            have hs2 : w1.heap.size < w2.heap.size := s2
            clear A2 b2 s2
            refine wpAny_ready (rs := [25]) (by kernel_rfl) (by simp) ?_
            refine AllReady.cons rfl (fun K hK => ?_) AllReady.nil
            refine step_movG _ rfl (some 7) rfl (.tmp 97) rfl (.slice (some ⟨w1.heap.size, 0, none⟩) 4 4) rfl (hK _ _ ?_)
            simp only [Act.put, List.setIfInBounds_toArray, List.set_cons_zero, List.set_cons_succ]
            refine wpAny_done (by kernel_rfl) ?_ _
            have MG : Hid (([y0, y1, y2, y3] : List Int) = MM) := by
              show _ = _
              obtain ⟨f0, f1, f2, f3⟩ := HEY.out
              rw [HMM.out, mid, if_neg hm0, if_pos hm4, f0, f1, f2, f3]
            obtain ⟨wj, rfl⟩ : ∃ x, x = w2 := ⟨_, rfl⟩
            have BJ : Hid (Below wr.heap.size wr wj) := B1.out.trans (hb2.mono B1.out.size)
            have XV : Hid (Byt wj (.slice (some ⟨w1.heap.size, 0, none⟩) 4 4) MM) := by
              have h := HA2.out
              rw [MG.out] at h
              exact h.bytG MA.out 4 4 ML.out (by omega) (by omega)
            have UJ : Hid (Byt wj ue (wd key j8)) := (HUE.out.below BJ.out).byt (HW.out j8)
            have cj : wj.cell? ⟨g, j8, none⟩ = some ue := (BJ.out.cell hgl).trans HCE.out
            go_wp2_with (first
              | (go_at_call 39; refine (rxor_own _ _ (wd key j8) MM _ (UJ.out) (XV.out) (by rw [W8.out, ML.out]) (by rw [W8.out]; omega)).mono ?_; rintro e w5 ⟨v5, rfl, o5, b5⟩; have B5 : Hid (Below wr.heap.size wr w5) := BJ.out.trans (b5.mono BJ.out.size); have W5 : Wrd4 w.heap.size w5 v5 (wd key k) := (by have h := o5; rw [← HWE.out] at h; exact h.wrd4 (HW.out k)); obtain ⟨b5_, of5, cp5, rfl, r5⟩ := W5; have W5 : Hid (Wrd4 w.heap.size w5 (.slice (some ⟨b5_, of5, none⟩) 4 cp5) (wd key k)) := ⟨b5_, of5, cp5, rfl, r5⟩; have z5 : w.heap.size ≤ w5.heap.size := Nat.le_trans hsz B5.out.size; clear o5 b5 r5)
              | (at_builtin; have q5 := z5; refine push_lawS w5 rfl (.tmp 98) (.tmp 106) rfl w.heap.size z5 _ us _ rfl rfl rfl (by rw [HU.out] at *; exact HO.out.below B5.out) (by rw [HU.out]; omega) ?_; intro v6 w6 O6 b6 g6; have HO6 : Hid (OwnS w.heap.size w6 v6 (us ++ [_])) := O6; have HG6 : Hid (∀ u' y, Wrd4 w.heap.size w5 u' y → Wrd4 w.heap.size w6 u' y) := g6; clear O6 g6))
            go_roundw
            case rel =>
              refine ⟨k + 1, _, by omega, by go_num, ?_, HO6.out, fun t ht => ?_, hbel.trans ((B5.out.mono hsz).trans b6)⟩
              · rw [List.length_append, HU.out]; rfl
              · by_cases htk : t < k
                · obtain ⟨u, h1, h2⟩ := HS.out t htk
                  exact ⟨u, by rw [List.getElem?_append_left (by rw [HU.out]; exact htk)]; exact h1, HG6.out _ _ (h2.below B5.out)⟩
                · have : t = k := by omega
                  subst this
                  exact ⟨_, by rw [List.getElem?_append_right (by rw [HU.out]; omega), HU.out, Nat.sub_self]; rfl, HG6.out _ _ W5.out⟩
            case measure => simp [intOf]; omega
          · obtain ⟨r, hr⟩ : ∃ r, r = k % 8 := ⟨_, rfl⟩
            have t0 : (k : Int) % 8 = (r : Int) := by omega
            have t0' : (k : Int).tmod 8 = (r : Int) := by rw [Int.tmod_eq_emod_of_nonneg (by omega)]; omega
            have t1 : ¬ ((r : Int) = 0) := by omega
            have t2 : ¬ ((r : Int) = 4) := by omega
            have t3 : IntKind.i64.wrap (r : Int) = r := by rw [IntKind.wrap_i64]; omega
            have MG : Hid (wd key j1 = MM) := by
              show _ = _
              rw [HMM.out, mid, if_neg hm0, if_neg hm4]
            clear hr
            go_wp2_with (first
              | (go_at_call 39; refine (rxor_own _ _ (wd key j8) MM _ (UJ.out) (XV.out) (by rw [W8.out, ML.out]) (by rw [W8.out]; omega)).mono ?_; rintro e w5 ⟨v5, rfl, o5, b5⟩; have B5 : Hid (Below wr.heap.size wr w5) := BJ.out.trans (b5.mono BJ.out.size); have W5 : Wrd4 w.heap.size w5 v5 (wd key k) := (by have h := o5; rw [← HWE.out] at h; exact h.wrd4 (HW.out k)); obtain ⟨b5_, of5, cp5, rfl, r5⟩ := W5; have W5 : Hid (Wrd4 w.heap.size w5 (.slice (some ⟨b5_, of5, none⟩) 4 cp5) (wd key k)) := ⟨b5_, of5, cp5, rfl, r5⟩; have z5 : w.heap.size ≤ w5.heap.size := Nat.le_trans hsz B5.out.size; clear o5 b5 r5)
              | (at_builtin; have q0 := YN; refine pushs_lawG _ rfl (.tmp 25) (.tmp 30) rfl wr.heap.size (by simp) _ _ [] (wd key j1) rfl rfl (Own.empty wr (Nat.le_refl _)) YN.out (by simp) (by rw [WL.out]; omega) ?_; intro v1 w1 o1 b1; have HO1 : Hid (Own wr.heap.size w1 v1 (wd key j1)) := o1; have B1 : Hid (Below wr.heap.size wr w1) := (((Below.refl _ _).alloc (Nat.le_refl _) _)).trans b1; have ce1 : w1.cell? ⟨g, j8, none⟩ = some ue := (B1.out.cell hgl).trans HCE.out; clear o1 b1 YN; have BJ : Hid (Below wr.heap.size wr w1) := B1; have XV : Hid (Byt w1 v1 MM) := (by rw [← MG.out]; exact HO1.out.byt (HW.out j1).2); have UJ : Hid (Byt w1 ue (wd key j8)) := (HUE.out.below B1.out).byt (HW.out j8))
              | (at_builtin; have q5 := z5; refine push_lawS w5 rfl (.tmp 98) (.tmp 106) rfl w.heap.size z5 _ us _ rfl rfl rfl (by rw [HU.out] at *; exact HO.out.below B5.out) (by rw [HU.out]; omega) ?_; intro v6 w6 O6 b6 g6; have HO6 : Hid (OwnS w.heap.size w6 v6 (us ++ [_])) := O6; have HG6 : Hid (∀ u' y, Wrd4 w.heap.size w5 u' y → Wrd4 w.heap.size w6 u' y) := g6; clear O6 g6))
            go_roundw
            case rel =>
              refine ⟨k + 1, _, by omega, by go_num, ?_, HO6.out, fun t ht => ?_, hbel.trans ((B5.out.mono hsz).trans b6)⟩
              · rw [List.length_append, HU.out]; rfl
              · by_cases htk : t < k
                · obtain ⟨u, h1, h2⟩ := HS.out t htk
                  exact ⟨u, by rw [List.getElem?_append_left (by rw [HU.out]; exact htk)]; exact h1, HG6.out _ _ (h2.below B5.out)⟩
                · have : t = k := by omega
                  subst this
                  exact ⟨_, by rw [List.getElem?_append_right (by rw [HU.out]; omega), HU.out, Nat.sub_self]; rfl, HG6.out _ _ W5.out⟩
            case measure => simp [intOf]; omega
    · have hk60 : k = 60 := by omega
      subst hk60
      obtain ⟨g, cap, cur, rfl, hg1, hg2, hg3, -, hcl⟩ := hown.at_ (by omega)
      rw [hul] at hg1
      rw [hul]
      have HD : Hid (Wds wr (.slice (some ⟨g, 0, none⟩) 60 cap) key) := ⟨g, cap, rfl, hg1, hg2, fun t ht => by
        obtain ⟨u, h1, h2⟩ := hws t ht
        exact ⟨u, hcl t u h1, h2.byt (HW.out t)⟩⟩
      clear hws hcl hown
      go_wp2
      go_ret
      exact ⟨_, rfl, HD.out, hbel⟩
end Go.Proofs.Ytjiddmgnkldmkaa
