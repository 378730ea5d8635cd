/- Texts put together (a claim holds few files). No claim of its own. -/
import Derived.Test.YtifepmdhbhdjpaaPackK
import Derived.Test.YtifepmdhbhdjpaaPackF
import Derived.Deep.DeepCutAuto
import Derived.Test.YtifepmdhbhdjpaaPackG
import Derived.Test.YtifepmdhbhdjpaaPackH
/- What the reference's Expand answers: a key's sixty words. No claim of its own. -/
namespace Go.Proofs.Ytifepmdhbhdjpaa
open Go.RowKit
set_option maxRecDepth 20000

/-- 'b[l:h]', its address told -/
theorem cut_exact {ops : Array Oper} {rest : List Oper} {o : Oper} {a : Act} {Q : Exit → Act → World → Prop} (w : World) (hg : o.guard = none) (s x y : Operand) (hop : o.op = Op.slice 22 s (some x) (some y) none) (b off n cap l h m : Nat) (L H : Int)
    (hs : a.eval s = .slice (some ⟨b, off, none⟩) n cap) (hx : a.eval x = .int .i64 L) (hy : a.eval y = .int .i64 H) (hL : L = (l : Int)) (hH : H = (h : Int)) (hl : l < h) (hh : h ≤ cap) (hm : h - l = m)
    (hK : wpList Try.prog ops Q rest (a.put o.dst (.slice (some ⟨b, off + l, none⟩) m (cap - l))) w) :
    wpList Try.prog ops Q (o :: rest) a w := by
  refine wpList_plain hg fun K hK' => ?_
  have hrun := run_slice_lh (P := Try.prog) w 22 (some ⟨b, off, none⟩) n cap und_bytes .i64 .i64 L H (by omega) (by omega) (by omega)
  rw [elem_bytes, run_size_u8] at hrun
  subst hL
  subst hH
  subst hm
  have e : sliced (some ⟨b, off, none⟩) l h cap 1 = .slice (some ⟨b, off + l, none⟩) (h - l) (cap - l) := by
    unfold sliced
    rw [if_neg (by omega)]
    simp [Addr.add_lit]
  simp only [Result.andThen, Int.toNat_natCast, e] at hrun
  unfold Oper.wp
  simp [execOp, hop, hs, hx, hy, run_sliceAt_slice w 22 _ _ _ _ und_bytes, hrun, Result.andThen]
  exact hK' _ _ hK

/-- a slice of a key's sixty words -/
def Wds (w : World) (v : Value) (key : List Int) : Prop :=
  ∃ g cap, v = .slice (some ⟨g, 0, none⟩) 60 cap ∧ 60 ≤ cap ∧ cap ≤ 9223372036854775807 ∧ ∀ t, t < 60 → ∃ u, w.cell? ⟨g, t, none⟩ = some u ∧ Byt w u (wd key t)
theorem Wds.below {w w' : World} {v : Value} {key : List Int} (h : Wds w v key) (hb : Below w.heap.size w w') : Wds w' v key := by
  obtain ⟨g, cap, rfl, h1, h2, h3⟩ := h
  refine ⟨g, cap, rfl, h1, h2, fun t ht => ?_⟩
  obtain ⟨u, hu, hy⟩ := h3 t ht
  exact ⟨u, by rw [hb.cell (World.block_lt_of_cell? w _ hu)]; exact hu, hy.below hb⟩

theorem gb4 (a b c d : Int) : gb [a, b, c, d] 0 = a ∧ gb [a, b, c, d] 1 = b ∧ gb [a, b, c, d] 2 = c ∧ gb [a, b, c, d] 3 = d := ⟨rfl, rfl, rfl, rfl⟩

set_option linter.unusedSimpArgs false in
set_option maxRecDepth 20000 in
set_option maxHeartbeats 8000000 in
theorem rexpand_any (kv tv : Value) (key : List Int) (w : World) (hv : Byt w kv key) (hl : key.length = 32) (ht : Byt w tv ptab) :
    Calls Try.prog 42 #[kv, tv] w fun e w' => ∃ v, e = .returned v ∧ Wds w' v key ∧ Below w.heap.size w w' := by
  have hka := hv.all
  obtain ⟨ao, ca, rfl, ha1, ha2, -, -, ha5⟩ := hv
  obtain ⟨bb, bo, rfl, hcell⟩ := ha5 (by omega)
  obtain ⟨to_, ta, rfl, ht1, ht2, -, -, ht5⟩ := ht
  rw [ptab_len] at ht1 ht5 ⊢
  obtain ⟨tb, tf, rfl, htc⟩ := ht5 (by omega)
  have HC : Hid (∀ t, t < 32 → w.cell? ⟨bb, bo + t, none⟩ = some (.int .u8 (gb key t))) := fun t ht => hcell t (by omega)
  have hbw : bb < w.heap.size := World.block_lt_of_cell? w _ (hcell 0 (by omega))
  have HT : Hid (∀ t, t < 256 → w.cell? ⟨tb, tf + t, none⟩ = some (.int .u8 (gb ptab t))) := htc
  have htw : tb < w.heap.size := World.block_lt_of_cell? w _ (htc 0 (by omega))
  have HW : Hid (∀ i, Wd (wd key i)) := wd_wd key hl hka
  have HWLo : Hid (∀ i, i < 8 → wd key i = cut4 key i) := fun i hi => by rw [wd_eq, if_pos hi]
  have HWHi : Hid (∀ i, 8 ≤ i → wd key i = xorl (wd key (i - 8)) (mid i (wd key (i - 1)))) := fun i hi => by rw [wd_eq, if_neg (by omega)]
  rw [hl] at ha1 ⊢
  clear hcell ha5 htc ht5 hka hl
  go_enter Try.func42, Try.ntmps42
  go_wp2
  go_loopw [5, 6] (fun v i wr => ∃ (k : Nat) (us : List Value), k ≤ 60 ∧ i = .int .i64 k ∧ us.length = k ∧ OwnS w.heap.size wr v us ∧ (∀ t, t < k → ∃ u, us[t]? = some u ∧ Wrd4 w.heap.size wr u (wd key t)) ∧ Below w.heap.size w wr) (fun _ i _ => 60 - (intOf i).toNat)
  case atStart => exact ⟨0, [], Nat.zero_le _, rfl, rfl, OwnS.empty w (Nat.le_refl _), fun t ht => by omega, (Below.refl _ _).alloc (Nat.le_refl _) _⟩
  case round =>
    obtain ⟨k, us, hk, rfl, hul, hown, hws, hbel⟩ := hrel
    have hsz := hbel.size
    have k0 : (0 : Int) ≤ (k : Int) := by omega
    have q1 : IntKind.i64.wrap (k : Int) = k := by rw [IntKind.wrap_i64]; omega
    by_cases hlt : k < 60
    · have k1 : (k : Int) < 60 := by omega
      have HO : Hid (OwnS w.heap.size wr u5 us) := hown
      have HU : Hid (us.length = k) := hul
      have HS : Hid (∀ t, t < k → ∃ u, us[t]? = some u ∧ Wrd4 w.heap.size wr u (wd key t)) := hws
      by_cases h8 : k < 8
      · have k2 : (k : Int) < 8 := by omega
        have r1 : IntKind.i64.wrap (4 * (k : Int)) = 4 * (k : Int) := by rw [IntKind.wrap_i64]; omega
        have r2 : IntKind.i64.wrap (4 * (k : Int) + 4) = 4 * (k : Int) + 4 := by rw [IntKind.wrap_i64]; omega
        have W4 : Hid (Wrd4 w.heap.size wr (.slice (some ⟨bb, bo + 4 * k, none⟩) 4 (ca - 4 * k)) (wd key k)) := by
          refine ⟨bb, bo + 4 * k, ca - 4 * k, rfl, by omega, by omega, Or.inl hbw, fun j hj => ?_⟩
          rw [HWLo.out k h8, cut4_gb _ _ _ hj, Nat.add_assoc, hbel.cell hbw]
          exact HC.out (4 * k + j) (by omega)
        clear hown hul hws
        go_wp2_with (first
          | (refine cut_exact _ rfl (.tmp 16) (.tmp 18) (.tmp 21) rfl bb bo 32 ca (4 * k) (4 * k + 4) 4 _ _ rfl rfl rfl (by omega) (by omega) (by omega) (by omega) (by omega) ?_)
          | (at_builtin; refine push_lawS wr rfl (.tmp 15) (.tmp 23) rfl w.heap.size hsz _ us _ rfl rfl rfl HO.out (by rw [HU.out]; omega) ?_; intro v' w1 O1 b1 g1; have HO1 : Hid (OwnS w.heap.size w1 v' (us ++ [_])) := O1; have HG1 : Hid (∀ u' y, Wrd4 w.heap.size wr u' y → Wrd4 w.heap.size w1 u' y) := g1; clear O1 g1))
        go_roundw
        case rel =>
          refine ⟨k + 1, _, by omega, by go_num, ?_, HO1.out, fun t ht => ?_, hbel.trans b1⟩
          · rw [List.length_append, HU.out]; rfl
          · by_cases htk : t < k
            · obtain ⟨u, h1, h2⟩ := HS.out t htk
              exact ⟨u, by rw [List.getElem?_append_left (by rw [HU.out]; exact htk)]; exact h1, HG1.out _ _ h2⟩
            · have : t = k := by omega
              subst this
              exact ⟨_, by rw [List.getElem?_append_right (by rw [HU.out]; omega), HU.out, Nat.sub_self]; rfl, HG1.out _ _ W4.out⟩
        case measure => simp [intOf]; omega
      · have k2 : ¬ (k : Int) < 8 := by omega
        obtain ⟨g, cap, cur, rfl, hg1, hg2, hg3, -, hcl⟩ := hown.at_ (by omega)
        obtain ⟨un, hun1, hun2⟩ := hws (k - 1) (by omega)
        obtain ⟨ue, hue1, hue2⟩ := hws (k - 8) (by omega)
        have cn := hcl (k - 1) un hun1
        have ce := hcl (k - 8) ue hue1
        have hgl : g < wr.heap.size := World.block_lt_of_cell? wr _ cn
        obtain ⟨j1, hj1⟩ : ∃ j, j = k - 1 := ⟨_, rfl⟩
        obtain ⟨j8, hj8⟩ : ∃ j, j = k - 8 := ⟨_, rfl⟩
        rw [← hj1] at cn hun2
        rw [← hj8] at ce hue2
        have s1 : (k : Int) - 1 = (j1 : Int) := by omega
        have s8 : (k : Int) - 8 = (j8 : Int) := by omega
        have p1 : IntKind.i64.wrap (j1 : Int) = j1 := by rw [IntKind.wrap_i64]; omega
        have p8 : IntKind.i64.wrap (j8 : Int) = j8 := by rw [IntKind.wrap_i64]; omega
        have z1 : (0 : Int) ≤ (j1 : Int) := by omega
        have z8 : (0 : Int) ≤ (j8 : Int) := by omega
        have l1 : (j1 : Int) < (k : Int) := by omega
        have l8 : (j8 : Int) < (k : Int) := by omega
        have YN : Hid (Byt (wr.alloc (.cells #[] 5)) un (wd key j1)) := (hun2.byt (HW.out j1)).below ((Below.refl _ _).alloc (Nat.le_refl _) _)
        have cn2 : (wr.alloc (.cells #[] 5)).cell? ⟨g, j1, none⟩ = some un := by rw [World.cell?_alloc_past _ _ _ hgl]; exact cn
        have HWE : Hid (wd key k = xorl (wd key j8) (mid k (wd key j1))) := by
          have := HWHi.out k (by omega)
          rw [← hj8, ← hj1] at this
          exact this
        have HUE : Hid (Wrd4 w.heap.size wr ue (wd key j8)) := hue2
        have HCE : Hid (wr.cell? ⟨g, j8, none⟩ = some ue) := ce
        have W1 : Hid (Wd (wd key j1)) := HW.out j1
        have WL : Hid ((wd key j1).length = 4) := (HW.out j1).1
        rw [hul] at hg1 HO
        rw [hul]
        clear hown hul hws hcl hun1 hue1 hun2 hue2 ce cn hj1 hj8
        have W8 : Hid ((wd key j8).length = 4) := (HW.out j8).1
        obtain ⟨MM, hMM⟩ : ∃ M, M = mid k (wd key j1) := ⟨_, rfl⟩
        have HMM : Hid (MM = mid k (wd key j1)) := hMM
        have ML : Hid (MM.length = 4) := by rw [hMM]; exact (mid_wd k _ (HW.out j1)).1
        have MA : Hid (AllB MM) := by rw [hMM]; exact (mid_wd k _ (HW.out j1)).2
        rw [← hMM] at HWE
        clear hMM
        by_cases hm0 : k % 8 = 0
        · have t0 : (k : Int) % 8 = 0 := by omega
          have t0' : (k : Int).tmod 8 = 0 := by rw [Int.tmod_eq_emod_of_nonneg (by omega)]; omega
          obtain ⟨d, hd⟩ : ∃ d, d = k / 8 - 1 := ⟨_, rfl⟩
          have e1 : (k : Int).tdiv 8 = (d : Int) + 1 := by rw [Int.tdiv_eq_ediv_of_nonneg (by omega)]; omega
          have e1' : (k : Int) / 8 = (d : Int) + 1 := by omega
          have e2 : IntKind.i64.wrap ((d : Int) + 1) = (d : Int) + 1 := by rw [IntKind.wrap_i64]; omega
          have e3 : IntKind.i64.wrap (d : Int) = (d : Int) := by rw [IntKind.wrap_i64]; omega
          have RP : Hid (∀ w0, Calls Try.prog 60 #[.int .u8 2, .int .i64 d] w0 fun e w' => e = .returned (.int .u8 (pw 2 d)) ∧ w' = w0) := fun w0 => rpow_any 2 d w0 (by omega) (by omega)
          have PB : Hid (pw 2 d < 256) := pw_lt 2 d
          go_wp2_with ((at_builtin; have q0 := YN; refine pushs_lawG _ rfl (.tmp 25) (.tmp 30) rfl wr.heap.size (by simp) _ _ [] (wd key j1) rfl rfl (Own.empty wr (Nat.le_refl _)) YN.out (by simp) (by rw [WL.out]; omega) ?_; intro v1 w1 o1 b1; have HO1 : Hid (Own wr.heap.size w1 v1 (wd key j1)) := o1; have B1 : Hid (Below wr.heap.size wr w1) := (((Below.refl _ _).alloc (Nat.le_refl _) _)).trans b1; have ce1 : w1.cell? ⟨g, j8, none⟩ = some ue := (B1.out.cell hgl).trans HCE.out; clear o1 b1 YN))
          obtain ⟨xa, xc, rfl, hx1, hx2, -, -, hx5⟩ := HO1.out.byt (HW.out j1).2
          obtain ⟨xb, xo, rfl, hxc⟩ := hx5 (by rw [WL.out]; omega)
          rw [WL.out] at hx1 hxc
          rw [WL.out]
          have htw1 : tb < wr.heap.size := by omega
          have fx : ∀ t, t < 4 → ∃ x y, x < 256 ∧ w1.cell? ⟨xb, xo + t, none⟩ = some (.int .u8 ((x : Nat) : Int)) ∧ w1.cell? ⟨tb, tf + x, none⟩ = some (.int .u8 y) ∧ y = gb ptab (gb (wd key j1) t).toNat := fun t ht => by
            have hb := (HW.out j1).2 t
            refine ⟨(gb (wd key j1) t).toNat, _, by omega, ?_, ?_, rfl⟩
            · rw [hxc t ht]
              have : gb (wd key j1) t = (((gb (wd key j1) t).toNat : Nat) : Int) := by omega
              rw [← this]
            · rw [B1.out.cell htw1, hbel.cell htw]
              exact HT.out _ (by omega)
          obtain ⟨x0, y0, b0, cx0, ct0, e0⟩ := fx 0 (by omega)
          obtain ⟨x1, y1, b1, cx1, ct1, e1⟩ := fx 1 (by omega)
          obtain ⟨x2, y2, b2, cx2, ct2, e2⟩ := fx 2 (by omega)
          obtain ⟨x3, y3, b3, cx3, ct3, e3⟩ := fx 3 (by omega)
          rw [Nat.add_zero] at cx0
          have xz0 : (0 : Int) ≤ (x0 : Int) := by omega
          have xz1 : (0 : Int) ≤ (x1 : Int) := by omega
          have xz2 : (0 : Int) ≤ (x2 : Int) := by omega
          have xz3 : (0 : Int) ≤ (x3 : Int) := by omega
          have xl0 : (x0 : Int) < 256 := by omega
          have xl1 : (x1 : Int) < 256 := by omega
          have xl2 : (x2 : Int) < 256 := by omega
          have xl3 : (x3 : Int) < 256 := by omega
          have HEY : Hid (y0 = gb ptab (gb (wd key j1) 0).toNat ∧ y1 = gb ptab (gb (wd key j1) 1).toNat ∧ y2 = gb ptab (gb (wd key j1) 2).toNat ∧ y3 = gb ptab (gb (wd key j1) 3).toNat) := ⟨e0, e1, e2, e3⟩
          clear fx hxc hx5 e0 e1 e2 e3 b0 b1 b2 b3
          refine wp_region_any (by kernel_rfl) ?_
          change wpAny _ _ _ _ _ _ _ (World.drew _)
          refine wpAny_quiet_then (C := fun w' => ∃ n, w' = w1.drewN n) 0 24 2 _ (by kernel_rfl) rfl (by kernel_rfl) (by kernel_rfl) ⟨1, rfl⟩ ?_
          simp only [List.take_succ_cons, List.take_zero, List.drop_zero]
          repeat (quiet_step (fail))
          refine wpQuiet_nil ?_
          rintro f _ ⟨nq, rfl⟩
          refine wpAny_ready (rs := [24]) (by kernel_rfl) (by simp) ?_
          refine AllReady.cons rfl (fun K hK => ?_) AllReady.nil
          refine step_build4 _ rfl (some 59) rfl (.tmp 40) (.tmp 46) (.tmp 52) (.tmp 58) rfl y1 y2 y3 y0 rfl rfl rfl rfl fun w2 A2 b2 s2 => hK _ _ ?_
          simp only [Act.put, List.setIfInBounds_toArray, List.set_cons_zero, List.set_cons_succ]
          have HA2 : Hid (Ar w2 w1.heap.size 0 .u8 [y1, y2, y3, y0]) := A2
          have hb2 : Below w1.heap.size w1 w2 := (below_drewN (Below.refl _ _) nq).trans b2
          have hs2 : w1.heap.size < w2.heap.size := s2
          clear A2 b2 s2
          refine wpAny_ready (rs := [25]) (by kernel_rfl) (by simp) ?_
          refine AllReady.cons rfl (fun K hK => ?_) AllReady.nil
          refine step_movG _ rfl (some 7) rfl (.tmp 59) rfl (.slice (some ⟨w1.heap.size, 0, none⟩) 4 4) rfl (hK _ _ ?_)
          simp only [Act.put, List.setIfInBounds_toArray, List.set_cons_zero, List.set_cons_succ]
          refine wpAny_done (by kernel_rfl) ?_ _
          have w2w : Below wr.heap.size wr w2 := B1.out.trans (hb2.mono B1.out.size)
          have MG : Hid ((([y1, y2, y3, y0] : List Int).set 0 (xr y1 (pw 2 d : Int))) = MM) := by
            show _ = _
            obtain ⟨f0, f1, f2, f3⟩ := HEY.out
            rw [HMM.out, mid, if_pos hm0, ← hd, f0, f1, f2, f3]
            rfl
          have hxr : bits .xor .u8 y1 (pw 2 d : Int) = xr y1 (pw 2 d : Int) := by
            have h1 := pAll (gb (wd key j1) 1).toNat
            rw [← HEY.out.2.1] at h1
            have h2 := PB.out
            exact xr_of _ _ h1 (by omega)
          have cy := HA2.out.cell0 0 (by simp)
          rw [(gb4 y1 y2 y3 y0).1] at cy
          clear hd
          generalize xr y1 (pw 2 d : Int) = zz at *
          generalize pw 2 d = pp at *
          go_wp2
          refine wp_region_any (by kernel_rfl) ?_
          change wpAny _ _ _ _ _ _ _ (World.drew _)
          refine wpAny_quiet_then (C := fun w' => ∃ n, w' = w2.drewN n) 0 10 1 _ (by kernel_rfl) rfl (by kernel_rfl) (by kernel_rfl) ⟨1, rfl⟩ ?_
          simp only [List.take_succ_cons, List.take_zero, List.drop_zero]
          repeat (quiet_step (with_reducible exact Calls.quiet_of_same (RP.out _)))
          refine wpQuiet_nil ?_
          rintro f _ ⟨n2, rfl⟩
          have A3 := HA2.out.drewN n2
          have A4 := A3.set0 0 (by simp) zz
          rw [MG.out] at A4
          have b4 : Below w1.heap.size w1 ((w2.drewN n2).setCell ⟨w1.heap.size, 0, none⟩ (.int .u8 zz)) := (below_drewN hb2 n2).setCell (Nat.le_refl _) _
          refine wpAny_ready (rs := [10]) (by kernel_rfl) (by simp) ?_
          refine AllReady.cons rfl (fun K hK => ?_) AllReady.nil
          refine step_set _ rfl none rfl (.tmp 69) (.tmp 68) 5 rfl .u8 zz w1.heap.size 0 rfl (by first | rfl | (rw [← hxr]; rfl)) (by rw [A3.cell0 0 (by simp)]; rfl) (A3.free0 0 (by simp)) i_u8 (hK _ _ ?_)
          simp only [Act.put, List.setIfInBounds_toArray, List.set_cons_zero, List.set_cons_succ]
          obtain ⟨wj, hwj⟩ : ∃ x, x = (w2.drewN n2).setCell ⟨w1.heap.size, 0, none⟩ (.int .u8 zz) := ⟨_, rfl⟩
          rw [← hwj] at A4 b4 ⊢
          clear hwj A3 cy
          have BJ : Hid (Below wr.heap.size wr wj) := B1.out.trans (b4.mono B1.out.size)
          have XV : Hid (Byt wj (.slice (some ⟨w1.heap.size, 0, none⟩) 4 4) MM) := A4.bytG MA.out 4 4 ML.out (by omega) (by omega)
          have UJ : Hid (Byt wj ue (wd key j8)) := (HUE.out.below BJ.out).byt (HW.out j8)
          have cj : wj.cell? ⟨g, j8, none⟩ = some ue := (BJ.out.cell hgl).trans HCE.out
          clear A4 b4
          refine wpAny_done (by kernel_rfl) ?_ _
          go_wp2_with (first
            | (go_at_call 44; refine (rxor_own _ _ (wd key j8) MM _ (UJ.out) (XV.out) (by rw [W8.out, ML.out]) (by rw [W8.out]; omega)).mono ?_; rintro e w5 ⟨v5, rfl, o5, b5⟩; have B5 : Hid (Below wr.heap.size wr w5) := BJ.out.trans (b5.mono BJ.out.size); have W5 : Wrd4 w.heap.size w5 v5 (wd key k) := (by have h := o5; rw [← HWE.out] at h; exact h.wrd4 (HW.out k)); obtain ⟨b5_, of5, cp5, rfl, r5⟩ := W5; have W5 : Hid (Wrd4 w.heap.size w5 (.slice (some ⟨b5_, of5, none⟩) 4 cp5) (wd key k)) := ⟨b5_, of5, cp5, rfl, r5⟩; have z5 : w.heap.size ≤ w5.heap.size := Nat.le_trans hsz B5.out.size; clear o5 b5 r5)
            | (at_builtin; have q5 := z5; refine push_lawS w5 rfl (.tmp 98) (.tmp 106) rfl w.heap.size z5 _ us _ rfl rfl rfl (by rw [HU.out] at *; exact HO.out.below B5.out) (by rw [HU.out]; omega) ?_; intro v6 w6 O6 b6 g6; have HO6 : Hid (OwnS w.heap.size w6 v6 (us ++ [_])) := O6; have HG6 : Hid (∀ u' y, Wrd4 w.heap.size w5 u' y → Wrd4 w.heap.size w6 u' y) := g6; clear O6 g6))
          go_roundw
          case rel =>
            refine ⟨k + 1, _, by omega, by go_num, ?_, HO6.out, fun t ht => ?_, hbel.trans ((B5.out.mono hsz).trans b6)⟩
            · rw [List.length_append, HU.out]; rfl
            · by_cases htk : t < k
              · obtain ⟨u, h1, h2⟩ := HS.out t htk
                exact ⟨u, by rw [List.getElem?_append_left (by rw [HU.out]; exact htk)]; exact h1, HG6.out _ _ (h2.below B5.out)⟩
              · have : t = k := by omega
                subst this
                exact ⟨_, by rw [List.getElem?_append_right (by rw [HU.out]; omega), HU.out, Nat.sub_self]; rfl, HG6.out _ _ W5.out⟩
          case measure => simp [intOf]; omega
        · by_cases hm4 : k % 8 = 4
          · have t0 : (k : Int) % 8 = 4 := by omega
            have t0' : (k : Int).tmod 8 = 4 := by rw [Int.tmod_eq_emod_of_nonneg (by omega)]; omega
            go_wp2_with ((at_builtin; have q0 := YN; refine pushs_lawG _ rfl (.tmp 25) (.tmp 30) rfl wr.heap.size (by simp) _ _ [] (wd key j1) rfl rfl (Own.empty wr (Nat.le_refl _)) YN.out (by simp) (by rw [WL.out]; omega) ?_; intro v1 w1 o1 b1; have HO1 : Hid (Own wr.heap.size w1 v1 (wd key j1)) := o1; have B1 : Hid (Below wr.heap.size wr w1) := (((Below.refl _ _).alloc (Nat.le_refl _) _)).trans b1; have ce1 : w1.cell? ⟨g, j8, none⟩ = some ue := (B1.out.cell hgl).trans HCE.out; clear o1 b1 YN))
            obtain ⟨xa, xc, rfl, hx1, hx2, -, -, hx5⟩ := HO1.out.byt (HW.out j1).2
            obtain ⟨xb, xo, rfl, hxc⟩ := hx5 (by rw [WL.out]; omega)
            rw [WL.out] at hx1 hxc
            rw [WL.out]
            have htw1 : tb < wr.heap.size := by omega
            have fx : ∀ t, t < 4 → ∃ x y, x < 256 ∧ w1.cell? ⟨xb, xo + t, none⟩ = some (.int .u8 ((x : Nat) : Int)) ∧ w1.cell? ⟨tb, tf + x, none⟩ = some (.int .u8 y) ∧ y = gb ptab (gb (wd key j1) t).toNat := fun t ht => by
              have hb := (HW.out j1).2 t
              refine ⟨(gb (wd key j1) t).toNat, _, by omega, ?_, ?_, rfl⟩
              · rw [hxc t ht]
                have : gb (wd key j1) t = (((gb (wd key j1) t).toNat : Nat) : Int) := by omega
                rw [← this]
              · rw [B1.out.cell htw1, hbel.cell htw]
                exact HT.out _ (by omega)
            obtain ⟨x0, y0, b0, cx0, ct0, e0⟩ := fx 0 (by omega)
            obtain ⟨x1, y1, b1, cx1, ct1, e1⟩ := fx 1 (by omega)
            obtain ⟨x2, y2, b2, cx2, ct2, e2⟩ := fx 2 (by omega)
            obtain ⟨x3, y3, b3, cx3, ct3, e3⟩ := fx 3 (by omega)
            rw [Nat.add_zero] at cx0
            have xz0 : (0 : Int) ≤ (x0 : Int) := by omega
            have xz1 : (0 : Int) ≤ (x1 : Int) := by omega
            have xz2 : (0 : Int) ≤ (x2 : Int) := by omega
            have xz3 : (0 : Int) ≤ (x3 : Int) := by omega
            have xl0 : (x0 : Int) < 256 := by omega
            have xl1 : (x1 : Int) < 256 := by omega
            have xl2 : (x2 : Int) < 256 := by omega
            have xl3 : (x3 : Int) < 256 := by omega
            have HEY : Hid (y0 = gb ptab (gb (wd key j1) 0).toNat ∧ y1 = gb ptab (gb (wd key j1) 1).toNat ∧ y2 = gb ptab (gb (wd key j1) 2).toNat ∧ y3 = gb ptab (gb (wd key j1) 3).toNat) := ⟨e0, e1, e2, e3⟩
            clear fx hxc hx5 e0 e1 e2 e3 b0 b1 b2 b3
            refine wp_region_any (by kernel_rfl) ?_
            change wpAny _ _ _ _ _ _ _ (World.drew _)
            refine wpAny_quiet_then (C := fun w' => ∃ n, w' = w1.drewN n) 0 24 2 _ (by kernel_rfl) rfl (by kernel_rfl) (by kernel_rfl) ⟨1, rfl⟩ ?_
            simp only [List.take_succ_cons, List.take_zero, List.drop_zero]
            repeat (quiet_step (fail))
            refine wpQuiet_nil ?_
            rintro f _ ⟨nq, rfl⟩
            refine wpAny_ready (rs := [24]) (by kernel_rfl) (by simp) ?_
            refine AllReady.cons rfl (fun K hK => ?_) AllReady.nil
            refine step_build4 _ rfl (some 97) rfl (.tmp 78) (.tmp 84) (.tmp 90) (.tmp 96) rfl y0 y1 y2 y3 rfl rfl rfl rfl fun w2 A2 b2 s2 => hK _ _ ?_
            simp only [Act.put, List.setIfInBounds_toArray, List.set_cons_zero, List.set_cons_succ]
            have HA2 : Hid (Ar w2 w1.heap.size 0 .u8 [y0, y1, y2, y3]) := A2
            have hb2 : Below w1.heap.size w1 w2 := (below_drewN (Below.refl _ _) nq).trans b2
            have hs2 : w1.heap.size < w2.heap.size := s2
            clear A2 b2 s2
            refine wpAny_ready (rs := [25]) (by kernel_rfl) (by simp) ?_
            refine AllReady.cons rfl (fun K hK => ?_) AllReady.nil
            refine step_movG _ rfl (some 7) rfl (.tmp 97) rfl (.slice (some ⟨w1.heap.size, 0, none⟩) 4 4) rfl (hK _ _ ?_)
            simp only [Act.put, List.setIfInBounds_toArray, List.set_cons_zero, List.set_cons_succ]
            refine wpAny_done (by kernel_rfl) ?_ _
            have MG : Hid (([y0, y1, y2, y3] : List Int) = MM) := by
              show _ = _
              obtain ⟨f0, f1, f2, f3⟩ := HEY.out
              rw [HMM.out, mid, if_neg hm0, if_pos hm4, f0, f1, f2, f3]
            obtain ⟨wj, rfl⟩ : ∃ x, x = w2 := ⟨_, rfl⟩
            have BJ : Hid (Below wr.heap.size wr wj) := B1.out.trans (hb2.mono B1.out.size)
            have XV : Hid (Byt wj (.slice (some ⟨w1.heap.size, 0, none⟩) 4 4) MM) := by
              have h := HA2.out
              rw [MG.out] at h
              exact h.bytG MA.out 4 4 ML.out (by omega) (by omega)
            have UJ : Hid (Byt wj ue (wd key j8)) := (HUE.out.below BJ.out).byt (HW.out j8)
            have cj : wj.cell? ⟨g, j8, none⟩ = some ue := (BJ.out.cell hgl).trans HCE.out
            go_wp2_with (first
              | (go_at_call 44; refine (rxor_own _ _ (wd key j8) MM _ (UJ.out) (XV.out) (by rw [W8.out, ML.out]) (by rw [W8.out]; omega)).mono ?_; rintro e w5 ⟨v5, rfl, o5, b5⟩; have B5 : Hid (Below wr.heap.size wr w5) := BJ.out.trans (b5.mono BJ.out.size); have W5 : Wrd4 w.heap.size w5 v5 (wd key k) := (by have h := o5; rw [← HWE.out] at h; exact h.wrd4 (HW.out k)); obtain ⟨b5_, of5, cp5, rfl, r5⟩ := W5; have W5 : Hid (Wrd4 w.heap.size w5 (.slice (some ⟨b5_, of5, none⟩) 4 cp5) (wd key k)) := ⟨b5_, of5, cp5, rfl, r5⟩; have z5 : w.heap.size ≤ w5.heap.size := Nat.le_trans hsz B5.out.size; clear o5 b5 r5)
              | (at_builtin; have q5 := z5; refine push_lawS w5 rfl (.tmp 98) (.tmp 106) rfl w.heap.size z5 _ us _ rfl rfl rfl (by rw [HU.out] at *; exact HO.out.below B5.out) (by rw [HU.out]; omega) ?_; intro v6 w6 O6 b6 g6; have HO6 : Hid (OwnS w.heap.size w6 v6 (us ++ [_])) := O6; have HG6 : Hid (∀ u' y, Wrd4 w.heap.size w5 u' y → Wrd4 w.heap.size w6 u' y) := g6; clear O6 g6))
            go_roundw
            case rel =>
              refine ⟨k + 1, _, by omega, by go_num, ?_, HO6.out, fun t ht => ?_, hbel.trans ((B5.out.mono hsz).trans b6)⟩
              · rw [List.length_append, HU.out]; rfl
              · by_cases htk : t < k
                · obtain ⟨u, h1, h2⟩ := HS.out t htk
                  exact ⟨u, by rw [List.getElem?_append_left (by rw [HU.out]; exact htk)]; exact h1, HG6.out _ _ (h2.below B5.out)⟩
                · have : t = k := by omega
                  subst this
                  exact ⟨_, by rw [List.getElem?_append_right (by rw [HU.out]; omega), HU.out, Nat.sub_self]; rfl, HG6.out _ _ W5.out⟩
            case measure => simp [intOf]; omega
          · obtain ⟨r, hr⟩ : ∃ r, r = k % 8 := ⟨_, rfl⟩
            have t0 : (k : Int) % 8 = (r : Int) := by omega
            have t0' : (k : Int).tmod 8 = (r : Int) := by rw [Int.tmod_eq_emod_of_nonneg (by omega)]; omega
            have t1 : ¬ ((r : Int) = 0) := by omega
            have t2 : ¬ ((r : Int) = 4) := by omega
            have t3 : IntKind.i64.wrap (r : Int) = r := by rw [IntKind.wrap_i64]; omega
            have MG : Hid (wd key j1 = MM) := by
              show _ = _
              rw [HMM.out, mid, if_neg hm0, if_neg hm4]
            clear hr
            go_wp2_with (first
              | (go_at_call 44; refine (rxor_own _ _ (wd key j8) MM _ (UJ.out) (XV.out) (by rw [W8.out, ML.out]) (by rw [W8.out]; omega)).mono ?_; rintro e w5 ⟨v5, rfl, o5, b5⟩; have B5 : Hid (Below wr.heap.size wr w5) := BJ.out.trans (b5.mono BJ.out.size); have W5 : Wrd4 w.heap.size w5 v5 (wd key k) := (by have h := o5; rw [← HWE.out] at h; exact h.wrd4 (HW.out k)); obtain ⟨b5_, of5, cp5, rfl, r5⟩ := W5; have W5 : Hid (Wrd4 w.heap.size w5 (.slice (some ⟨b5_, of5, none⟩) 4 cp5) (wd key k)) := ⟨b5_, of5, cp5, rfl, r5⟩; have z5 : w.heap.size ≤ w5.heap.size := Nat.le_trans hsz B5.out.size; clear o5 b5 r5)
              | (at_builtin; have q0 := YN; refine pushs_lawG _ rfl (.tmp 25) (.tmp 30) rfl wr.heap.size (by simp) _ _ [] (wd key j1) rfl rfl (Own.empty wr (Nat.le_refl _)) YN.out (by simp) (by rw [WL.out]; omega) ?_; intro v1 w1 o1 b1; have HO1 : Hid (Own wr.heap.size w1 v1 (wd key j1)) := o1; have B1 : Hid (Below wr.heap.size wr w1) := (((Below.refl _ _).alloc (Nat.le_refl _) _)).trans b1; have ce1 : w1.cell? ⟨g, j8, none⟩ = some ue := (B1.out.cell hgl).trans HCE.out; clear o1 b1 YN; have BJ : Hid (Below wr.heap.size wr w1) := B1; have XV : Hid (Byt w1 v1 MM) := (by rw [← MG.out]; exact HO1.out.byt (HW.out j1).2); have UJ : Hid (Byt w1 ue (wd key j8)) := (HUE.out.below B1.out).byt (HW.out j8))
              | (at_builtin; have q5 := z5; refine push_lawS w5 rfl (.tmp 98) (.tmp 106) rfl w.heap.size z5 _ us _ rfl rfl rfl (by rw [HU.out] at *; exact HO.out.below B5.out) (by rw [HU.out]; omega) ?_; intro v6 w6 O6 b6 g6; have HO6 : Hid (OwnS w.heap.size w6 v6 (us ++ [_])) := O6; have HG6 : Hid (∀ u' y, Wrd4 w.heap.size w5 u' y → Wrd4 w.heap.size w6 u' y) := g6; clear O6 g6))
            go_roundw
            case rel =>
              refine ⟨k + 1, _, by omega, by go_num, ?_, HO6.out, fun t ht => ?_, hbel.trans ((B5.out.mono hsz).trans b6)⟩
              · rw [List.length_append, HU.out]; rfl
              · by_cases htk : t < k
                · obtain ⟨u, h1, h2⟩ := HS.out t htk
                  exact ⟨u, by rw [List.getElem?_append_left (by rw [HU.out]; exact htk)]; exact h1, HG6.out _ _ (h2.below B5.out)⟩
                · have : t = k := by omega
                  subst this
                  exact ⟨_, by rw [List.getElem?_append_right (by rw [HU.out]; omega), HU.out, Nat.sub_self]; rfl, HG6.out _ _ W5.out⟩
            case measure => simp [intOf]; omega
    · have hk60 : k = 60 := by omega
      subst hk60
      obtain ⟨g, cap, cur, rfl, hg1, hg2, hg3, -, hcl⟩ := hown.at_ (by omega)
      rw [hul] at hg1
      rw [hul]
      have HD : Hid (Wds wr (.slice (some ⟨g, 0, none⟩) 60 cap) key) := ⟨g, cap, rfl, hg1, hg2, fun t ht => by
        obtain ⟨u, h1, h2⟩ := hws t ht
        exact ⟨u, hcl t u h1, h2.byt (HW.out t)⟩⟩
      clear hws hcl hown
      go_wp2
      go_ret
      exact ⟨_, rfl, HD.out, hbel⟩
end Go.Proofs.Ytifepmdhbhdjpaa

/- What the reference's Turned answers. No claim of its own. -/
namespace Go.Proofs.Ytifepmdhbhdjpaa
open Go.RowKit
set_option maxRecDepth 20000

set_option linter.unusedSimpArgs false in
set_option maxRecDepth 20000 in
set_option maxHeartbeats 4000000 in
theorem turned_any (cs vs : List Nat) (w : World) (hc : Col cs) (hv : Col vs) :
    Calls Try.prog 61 #[.agg (ints .u8 (cI cs)), .agg (ints .u8 (cI vs))] w fun e w' => e = .returned (.agg (ints .u8 (cI (trn cs vs)))) ∧ Below w.heap.size w w' := by
  have HC : Hid (Col cs) := hc
  have HV : Hid (Col vs) := hv
  have LC : Hid ((cI cs).length = 4) := by show _ = _; rw [cI_len]; exact hc.1
  have LV : Hid ((cI vs).length = 4) := by show _ = _; rw [cI_len]; exact hv.1
  have GC : Hid (∀ i, gb (cI cs) i = (gn cs i : Int)) := gb_cI cs
  have GV : Hid (∀ i, gb (cI vs) i = (gn vs i : Int)) := gb_cI vs
  have HE : Hid (prt cs vs 4 0 = cI (trn cs vs) ∧ (cI (trn cs vs)).length = 4) := ⟨prt_end cs vs, rfl⟩
  have HZ : Hid (prt cs vs 0 0 = z4) := prt_zero cs vs
  obtain ⟨xs, hxs⟩ : ∃ xs, xs = cI cs := ⟨_, rfl⟩
  obtain ⟨ys, hys⟩ : ∃ ys, ys = cI vs := ⟨_, rfl⟩
  obtain ⟨zs, hzs⟩ : ∃ zs, zs = cI (trn cs vs) := ⟨_, rfl⟩
  rw [← hxs] at LC GC
  rw [← hys] at LV GV
  rw [← hzs] at HE
  rw [← hxs, ← hys, ← hzs]
  clear hxs hys hzs hc hv
  go_enter Try.func61, Try.ntmps61
  go_wp2_with (first
    | (refine box_lawF _ rfl (.tmp 0) 73 rfl .u8 xs rfl ?_; intro w1 A1 B1 s1; have HA1 : Hid (Ar w1 w.heap.size 0 .u8 xs) := A1; clear A1)
    | (refine box_lawF _ rfl (.tmp 1) 73 rfl .u8 ys rfl ?_; intro w2 A2 B2 s2; have HA2 : Hid (Ar w2 w1.heap.size 0 .u8 ys) := A2; clear A2)
    | (have q2 := s2; have q3 := s3; refine build_law _ rfl 73 _ rfl (.agg (ints .u8 z4)) (by kernel_rfl) ?_)
    | (have q2 := s2; have q3 := s3; have q4 := s4; refine store_lawF _ rfl (.tmp 5) (.tmp 7) 73 rfl .u8 z4 z4 w3.heap.size rfl rfl HA4.out 4 i_arr4 rfl rfl ?_; intro w5 A5 B5; have HA5 : Hid (Ar w5 w3.heap.size 0 .u8 z4) := A5; clear A5)
    | (have q2 := s2; have q3 := s3; refine new_lawF _ rfl 73 rfl .u8 z4 z_arr4 ?_; intro w4 A4 B4 s4; have HA4 : Hid (Ar w4 w3.heap.size 0 .u8 z4) := A4; clear A4)
    | (have q2 := s2; refine new_lawF _ rfl 73 rfl .u8 z4 z_arr4 ?_; intro w3 A3 B3 s3; have HA3 : Hid (Ar w3 w2.heap.size 0 .u8 z4) := A3; clear A3))
  have D1 : Hid (Ar w3 w.heap.size 0 .u8 xs) := (HA1.out.below B2 s1).below B3 (by omega)
  have D2 : Hid (Ar w3 w1.heap.size 0 .u8 ys) := HA2.out.below B3 s2
  have BW : Below w.heap.size w w3 := (B1.trans (B2.mono (by omega))).trans (B3.mono (by omega))
  have BS : Below w3.heap.size w3 w5 := B4.trans B5
  have o1 : w.heap.size < w3.heap.size := by omega
  have o2 : w1.heap.size < w3.heap.size := by omega
  have o3 : w2.heap.size < w3.heap.size := by omega
  generalize w2.heap.size = g2 at *
  generalize w1.heap.size = g1 at *
  generalize w3.heap.size = g3 at *
  go_loopw [6] (fun i wr => ∃ k : Nat, k ≤ 4 ∧ i = .int .i64 k ∧ Ar wr g3 0 .u8 (prt cs vs k 0) ∧ Below g3 w3 wr) (fun i _ => 4 - (intOf i).toNat)
  case atStart => exact ⟨0, Nat.zero_le _, rfl, by rw [HZ.out]; exact HA5.out, BS⟩
  case round =>
    obtain ⟨k, hk, rfl, hA, hB⟩ := hrel
    obtain ⟨wa, rfl⟩ : ∃ wx, wx = wr := ⟨_, rfl⟩
    have k0 : (0 : Int) ≤ (k : Int) := by omega
    have q1 : IntKind.i64.wrap (k : Int) = k := by rw [IntKind.wrap_i64]; omega
    have HB : Hid (Below g3 w3 wa) := hB
    have HA : Hid (Ar wa g3 0 .u8 (prt cs vs k 0)) := hA
    clear hA hB
    by_cases hlt : k < 4
    · have k1 : (k : Int) < 4 := by omega
      have c0 := (D1.out.below HB.out o1).cell0 k (by rw [LC.out]; omega)
      rw [GC.out] at c0
      obtain ⟨j1, hj1⟩ : ∃ j, j = (k + 1) % 4 := ⟨_, rfl⟩
      have a1 : (0 : Int) ≤ (j1 : Int) := by omega
      have b1 : (j1 : Int) < 4 := by omega
      have p1 : IntKind.i64.wrap (j1 : Int) = j1 := by rw [IntKind.wrap_i64]; omega
      have l1 : IntKind.i64.wrap ((k : Int) + 1) = (k : Int) + 1 := by rw [IntKind.wrap_i64]; omega
      have r1 : ((k : Int) + 1) % 4 = (j1 : Int) := by omega
      have t1 : ((k : Int) + 1).tmod 4 = (j1 : Int) := by rw [Int.tmod_eq_emod_of_nonneg (by omega)]; omega
      have c1 := (D1.out.below HB.out o1).cell0 j1 (by rw [LC.out]; omega)
      rw [GC.out] at c1
      obtain ⟨j2, hj2⟩ : ∃ j, j = (k + 2) % 4 := ⟨_, rfl⟩
      have a2 : (0 : Int) ≤ (j2 : Int) := by omega
      have b2 : (j2 : Int) < 4 := by omega
      have p2 : IntKind.i64.wrap (j2 : Int) = j2 := by rw [IntKind.wrap_i64]; omega
      have l2 : IntKind.i64.wrap ((k : Int) + 2) = (k : Int) + 2 := by rw [IntKind.wrap_i64]; omega
      have r2 : ((k : Int) + 2) % 4 = (j2 : Int) := by omega
      have t2 : ((k : Int) + 2).tmod 4 = (j2 : Int) := by rw [Int.tmod_eq_emod_of_nonneg (by omega)]; omega
      have c2 := (D1.out.below HB.out o1).cell0 j2 (by rw [LC.out]; omega)
      rw [GC.out] at c2
      obtain ⟨j3, hj3⟩ : ∃ j, j = (k + 3) % 4 := ⟨_, rfl⟩
      have a3 : (0 : Int) ≤ (j3 : Int) := by omega
      have b3 : (j3 : Int) < 4 := by omega
      have p3 : IntKind.i64.wrap (j3 : Int) = j3 := by rw [IntKind.wrap_i64]; omega
      have l3 : IntKind.i64.wrap ((k : Int) + 3) = (k : Int) + 3 := by rw [IntKind.wrap_i64]; omega
      have r3 : ((k : Int) + 3) % 4 = (j3 : Int) := by omega
      have t3 : ((k : Int) + 3).tmod 4 = (j3 : Int) := by rw [Int.tmod_eq_emod_of_nonneg (by omega)]; omega
      have c3 := (D1.out.below HB.out o1).cell0 j3 (by rw [LC.out]; omega)
      rw [GC.out] at c3
      have e0 := (D2.out.below HB.out o2).cell0 0 (by rw [LV.out]; omega)
      rw [GV.out] at e0
      have e1 := (D2.out.below HB.out o2).cell0 1 (by rw [LV.out]; omega)
      rw [GV.out] at e1
      have e2 := (D2.out.below HB.out o2).cell0 2 (by rw [LV.out]; omega)
      rw [GV.out] at e2
      have e3 := (D2.out.below HB.out o2).cell0 3 (by rw [LV.out]; omega)
      rw [GV.out] at e3
      have M0 : Hid (∀ w0, Calls Try.prog 59 #[.int .u8 (gn vs 0), .int .u8 (gn cs k)] w0 fun e w' => e = .returned (.int .u8 (gm (gn vs 0) (gn cs k))) ∧ w' = w0) := fun w0 => rmul_any _ _ w0 (HV.out.2 0) (HC.out.2 _)
      have M1 : Hid (∀ w0, Calls Try.prog 59 #[.int .u8 (gn vs 1), .int .u8 (gn cs j1)] w0 fun e w' => e = .returned (.int .u8 (gm (gn vs 1) (gn cs j1))) ∧ w' = w0) := fun w0 => rmul_any _ _ w0 (HV.out.2 1) (HC.out.2 _)
      have M2 : Hid (∀ w0, Calls Try.prog 59 #[.int .u8 (gn vs 2), .int .u8 (gn cs j2)] w0 fun e w' => e = .returned (.int .u8 (gm (gn vs 2) (gn cs j2))) ∧ w' = w0) := fun w0 => rmul_any _ _ w0 (HV.out.2 2) (HC.out.2 _)
      have M3 : Hid (∀ w0, Calls Try.prog 59 #[.int .u8 (gn vs 3), .int .u8 (gn cs j3)] w0 fun e w' => e = .returned (.int .u8 (gm (gn vs 3) (gn cs j3))) ∧ w' = w0) := fun w0 => rmul_any _ _ w0 (HV.out.2 3) (HC.out.2 _)
      have HX : Hid (((tt cs vs k : Nat) : Int) = bits .xor .u8 (bits .xor .u8 (bits .xor .u8 (gm (gn vs 0) (gn cs k) : Nat) (gm (gn vs 1) (gn cs j1) : Nat)) (gm (gn vs 2) (gn cs j2) : Nat)) (gm (gn vs 3) (gn cs j3) : Nat)) := by
        have g0 := gm_lt (gn vs 0) (gn cs k) (HV.out.2 0)
        have g1 := gm_lt (gn vs 1) (gn cs j1) (HV.out.2 1)
        have g2 := gm_lt (gn vs 2) (gn cs j2) (HV.out.2 2)
        have g3 := gm_lt (gn vs 3) (gn cs j3) (HV.out.2 3)
        show _ = _
        rw [u8_xor_nat _ _ g0 g1, u8_xor_nat _ _ (xor_lt _ _ g0 g1) g2, u8_xor_nat _ _ (xor_lt _ _ (xor_lt _ _ g0 g1) g2) g3, hj1, hj2, hj3]
        rfl
      have HS : Hid ((prt cs vs k 0).set k ((tt cs vs k : Nat) : Int) = prt cs vs (k + 1) 0) := prt_put cs vs k hlt
      clear hj1 hj2 hj3
      generalize tt cs vs k = y1 at *
      generalize gm (gn vs 0) (gn cs k) = m0 at *
      generalize gm (gn vs 1) (gn cs j1) = m1 at *
      generalize gm (gn vs 2) (gn cs j2) = m2 at *
      generalize gm (gn vs 3) (gn cs j3) = m3 at *
      generalize gn cs k = u0 at *
      generalize gn cs j1 = u1 at *
      generalize gn cs j2 = u2 at *
      generalize gn cs j3 = u3 at *
      generalize gn vs 0 = v0 at *
      generalize gn vs 1 = v1 at *
      generalize gn vs 2 = v2 at *
      generalize gn vs 3 = v3 at *
      go_wp2
      refine wp_region_any (by kernel_rfl) ?_
      change wpAny _ _ _ _ _ _ _ (World.drew _)
      refine wpAny_quiet_then (C := fun w' => ∃ n, w' = wa.drewN n) 0 35 1 _ (by kernel_rfl) rfl (by kernel_rfl) (by kernel_rfl) ⟨1, rfl⟩ ?_
      simp only [List.take_succ_cons, List.take_zero, List.drop_zero]
      repeat (quiet_step (first
        | with_reducible exact Calls.quiet_of_same (M0.out _)
        | with_reducible exact Calls.quiet_of_same (M1.out _)
        | with_reducible exact Calls.quiet_of_same (M2.out _)
        | with_reducible exact Calls.quiet_of_same (M3.out _)))
      refine wpQuiet_nil ?_
      rintro f _ ⟨nq, rfl⟩
      have A1 := HA.out.drewN nq
      have A2 := A1.set0 k (by rw [prt_len]; omega) (y1 : Int)
      rw [HS.out] at A2
      have B2' : Below g3 w3 ((wa.drewN nq).setCell ⟨g3, k, none⟩ (.int .u8 (y1 : Int))) := (below_drewN HB.out nq).setCell (Nat.le_refl _) _
      refine wpAny_ready (rs := [35]) (by kernel_rfl) (by simp) ?_
      refine AllReady.cons rfl (fun K hK => ?_) AllReady.nil
      refine step_set _ rfl none rfl (.tmp 46) (.tmp 45) 5 rfl .u8 (y1 : Int) g3 k rfl (by rw [HX.out]; rfl) (by rw [A1.cell0 k (by rw [prt_len]; omega)]; rfl) (A1.free0 k (by rw [prt_len]; omega)) i_u8 (hK _ _ ?_)
      simp only [Act.put, List.setIfInBounds_toArray, List.set_cons_zero, List.set_cons_succ]
      have HA6 : Hid (Ar ((wa.drewN nq).setCell ⟨g3, k, none⟩ (.int .u8 (y1 : Int))) g3 0 .u8 (prt cs vs (k + 1) 0)) := A2
      have HB6 : Hid (Below g3 w3 ((wa.drewN nq).setCell ⟨g3, k, none⟩ (.int .u8 (y1 : Int)))) := B2'
      clear A1 A2 B2' c0 c1 c2 c3 e0 e1 e2 e3
      generalize (wa.drewN nq).setCell ⟨g3, k, none⟩ (.int .u8 (y1 : Int)) = w6 at *
      refine wpAny_done (by kernel_rfl) ?_ _
      go_wp2
      go_roundw
      case rel => exact ⟨k + 1, by omega, by go_num, HA6.out, HB6.out⟩
      case measure => simp [intOf]; omega
    · have hk4 : k = 4 := by omega
      subst hk4
      rw [HE.out.1] at HA
      have D3 : Hid (Ar wa g2 0 .u8 z4) := HA3.out.below HB.out o3
      go_wp2_with (first
        | (refine load_law _ rfl (.tmp 5) 73 rfl .u8 zs g3 0 rfl HA.out 4 5 Try.underlying73 i_arr4 HE.out.2 ?_)
        | (refine store_lawF _ rfl (.tmp 4) (.tmp 47) 73 rfl .u8 z4 zs g2 rfl rfl D3.out 4 i_arr4 rfl HE.out.2 ?_; intro w7 A7 B7))
      refine bodyPost_ret (v := .agg (ints .u8 zs)) (results_ar rfl _ _ g2 0 .u8 zs rfl A7 4 5 Try.underlying73 i_arr4 HE.out.2) rfl ⟨rfl, ?_⟩
      exact (BW.trans (HB.out.mono (by omega))).trans (B7.mono (by omega))
end Go.Proofs.Ytifepmdhbhdjpaa

/- What the reference's round and mixed answer. No claim of its own. -/
namespace Go.Proofs.Ytifepmdhbhdjpaa
open Go.RowKit
set_option maxRecDepth 20000

/-- a round's first words -/
def ckr (key : List Int) (r : Nat) : Nat → List Int
  | 0 => []
  | m + 1 => ckr key r m ++ wd key (4 * r + m)
theorem ckr_end (key : List Int) (r : Nat) : ckr key r 4 = rk key r := by simp [ckr, rk]
theorem ckr_len (key : List Int) (hk : key.length = 32) (ha : AllB key) (r m : Nat) : (ckr key r m).length = 4 * m := by
  induction m with
  | zero => rfl
  | succ m ih => rw [ckr, List.length_append, ih, (wd_wd key hk ha _).1]; omega

set_option maxRecDepth 20000 in
set_option maxHeartbeats 4000000 in
theorem rround_any (v : Value) (key : List Int) (r : Nat) (w : World) (hd : Wds w v key) (hkl : key.length = 32) (hka : AllB key) (hr : r ≤ 14) :
    Calls Try.prog 45 #[v, .int .i64 r] w fun e w' => ∃ v', e = .returned v' ∧ Byt w' v' (rk key r) ∧ Below w.heap.size w w' := by
  obtain ⟨g, cap, rfl, hg1, hg2, hg3⟩ := hd
  have HD : Hid (∀ t, t < 60 → ∃ u, w.cell? ⟨g, t, none⟩ = some u ∧ Byt w u (wd key t)) := hg3
  have HL : Hid (∀ m, (ckr key r m).length = 4 * m) := ckr_len key hkl hka r
  have HE : Hid (ckr key r 4 = rk key r ∧ AllB (rk key r)) := ⟨ckr_end key r, (rk_blk key hkl hka r).2⟩
  have HW : Hid (∀ t, (wd key t).length = 4) := fun t => (wd_wd key hkl hka t).1
  have r0 : (0 : Int) ≤ (r : Int) := by omega
  have e1 : IntKind.i64.wrap (4 * (r : Int)) = 4 * (r : Int) := by rw [IntKind.wrap_i64]; omega
  have e2 : IntKind.i64.wrap (4 * (r : Int) + 4) = 4 * (r : Int) + 4 := by rw [IntKind.wrap_i64]; omega
  generalize rk key r = zs at *
  clear hg3 hkl hka
  go_enter Try.func45, Try.ntmps45
  go_wp2
  go_loopw [5, 6] (fun v i wr => ∃ m : Nat, m ≤ 4 ∧ i = .int .i64 (4 * (r : Int) + (m : Int)) ∧ Own w.heap.size wr v (ckr key r m) ∧ Below w.heap.size w wr) (fun _ i _ => 4 * r + 4 - (intOf i).toNat)
  case atStart => exact ⟨0, Nat.zero_le _, by simp, Own.empty w (Nat.le_refl _), (Below.refl _ _).alloc (Nat.le_refl _) _⟩
  case round =>
    obtain ⟨m, hm, rfl, hown, hbel⟩ := hrel
    have hsz := hbel.size
    obtain ⟨j, hj⟩ : ∃ j, j = 4 * r + m := ⟨_, rfl⟩
    have ej : 4 * (r : Int) + (m : Int) = (j : Int) := by omega
    have j0 : (0 : Int) ≤ (j : Int) := by omega
    have q1 : IntKind.i64.wrap (j : Int) = j := by rw [IntKind.wrap_i64]; omega
    by_cases hlt : m < 4
    · have j1 : (j : Int) < 4 * (r : Int) + 4 := by omega
      have j60 : (j : Int) < 60 := by omega
      obtain ⟨u, hu1, hu2⟩ := HD.out j (by omega)
      have lg : g < w.heap.size := World.block_lt_of_cell? w _ hu1
      have cu : wr.cell? ⟨g, j, none⟩ = some u := (hbel.cell lg).trans hu1
      have YU : Hid (Byt wr u (wd key j)) := hu2.below hbel
      have SN : Hid (ckr key r (m + 1) = ckr key r m ++ wd key j) := by show _ = _; rw [hj]; rfl
      have HO : Hid (Own w.heap.size wr u5 (ckr key r m)) := hown
      have L1 : Hid ((ckr key r m).length ≤ 1099511627776) := by show _ ≤ _; rw [HL.out]; omega
      have L2 : Hid ((wd key j).length ≤ 1099511627776) := by show _ ≤ _; rw [HW.out]; omega
      have HJ : Hid (4 * (r : Int) + (m : Int) = (j : Int)) := ej
      clear hown hu1 hu2 hj
      rw [ej]
      clear ej
      go_wp2_with (at_builtin; refine pushs_lawG _ rfl (.tmp 17) (.tmp 21) rfl w.heap.size hsz _ _ _ _ rfl rfl HO.out YU.out L1.out L2.out ?_; intro v1 w1 o1 b1)
      rw [← SN.out] at o1
      go_roundw
      case rel => exact ⟨m + 1, by omega, by have := HJ.out; congr 1; omega, o1, hbel.trans b1⟩
      case measure => simp [intOf]; have := HJ.out; omega
    · have hm4 : m = 4 := by omega
      subst hm4
      have jn : ¬ ((j : Int) < 4 * (r : Int) + 4) := by omega
      rw [HE.out.1] at hown
      rw [ej]
      clear ej hj
      go_wp2
      go_ret
      exact ⟨_, rfl, hown.byt HE.out.2, hbel⟩

theorem exec_idxB {ev : Operand → Value} {o : Oper} (x y : Operand) (hop : o.op = Op.indexAddr 22 x y) (b off n cap i : Nat) (I : Int) (hx : ev x = .slice (some ⟨b, off, none⟩) n cap) (hy : ev y = .int .i64 I) (hI : I = (i : Int)) (hi : i < n) (w : World) : (execOp ev o).run Try.prog w = .ok (.value (.pointer (some ⟨b, off + i, none⟩))) w := by
  subst hI
  have hr : (Instr.indexAt 22 (.slice (some ⟨b, off, none⟩) n cap) (.int .i64 (i : Int))).run Try.prog w = .ok (.pointer (some ⟨b, off + i, none⟩)) w := by
    rw [run_indexAt_slice _ _ _ _ _ _ _ und_bytes, if_pos (by omega), elem_bytes, run_size_u8]
    simp [Result.andThen, Addr.add]
  unfold execOp
  simp only [hop, hx, hy, Sem.run_bind, Sem.run_pure, Result.andThen_ok, hr]
theorem exec_get {ev : Operand → Value} {o : Oper} (x : Operand) (hop : o.op = Op.load 5 x) (b p : Nat) (c : Int) (hx : ev x = .pointer (some ⟨b, p, none⟩)) (w : World) (h : w.cell? ⟨b, p, none⟩ = some (.int .u8 c)) : (execOp ev o).run Try.prog w = .ok (.value (.int .u8 c)) w := by
  unfold execOp
  simp only [hop, hx, Instr.loadAt, Instr.sureAddr, Sem.run_bind, Sem.run_pure, Result.andThen_ok, run_load1 w b p 5 .u8 c Try.underlying5 h]
theorem exec_loadR {ev : Operand → Value} {o : Oper} (t : TypeId) (x : Operand) (hop : o.op = Op.load t x) (p : Value) (hx : ev x = p) (v : Value) (w : World) (hr : (Instr.loadAt t p).run Try.prog w = .ok v w) : (execOp ev o).run Try.prog w = .ok (.value v) w := by
  unfold execOp
  simp only [hop, hx, Sem.run_bind, Sem.run_pure, Result.andThen_ok, hr]

/-- the first k columns, mixed -/
def ckm (ms : List Int) (k : Nat) : List Int := ms.take (4 * k)
theorem ckm_snoc (ms : List Int) (k : Nat) : ckm ms (k + 1) = ckm ms k ++ cut4 ms k := by
  unfold ckm cut4
  rw [List.drop_take, Nat.add_sub_cancel_left, show 4 * (k + 1) = 4 * k + 4 by omega, List.take_add]

set_option linter.unusedSimpArgs false in
set_option maxRecDepth 20000 in
set_option maxHeartbeats 8000000 in
theorem rmixed_any (v : Value) (xs : List Int) (ws : List Nat) (w : World) (hv : Byt w v xs) (hl : xs.length = 16) (hw : Col ws) :
    Calls Try.prog 46 #[v, .agg (ints .u8 (cI ws))] w fun e w' => ∃ v', e = .returned v' ∧ Byt w' v' (mixb xs ws) ∧ Below w.heap.size w w' := by
  have hxa := hv.all
  obtain ⟨ao, ca, rfl, ha1, ha2, -, -, ha5⟩ := hv
  obtain ⟨bb, bo, rfl, hcell⟩ := ha5 (by omega)
  have HC : Hid (∀ t, t < 16 → w.cell? ⟨bb, bo + t, none⟩ = some (.int .u8 (gb xs t))) := fun t ht => hcell t (by omega)
  have hbw : bb < w.heap.size := World.block_lt_of_cell? w _ (hcell 0 (by omega))
  have WL : Hid ((cI ws).length = 4) := by show _ = _; rw [cI_len]; exact hw.1
  have HB16 := mixb_blk xs ws hw
  have MB : Hid ((mixb xs ws).length = 16 ∧ AllB (mixb xs ws)) := ⟨HB16.1, HB16.2⟩
  have HTn0 : Hid (∀ k, k < 4 → ∀ w0, Calls Try.prog 61 #[.agg (ints .u8 (cut4 xs k)), .agg (ints .u8 (cI ws))] w0 fun e w' => e = .returned (.agg (ints .u8 (cut4 (mixb xs ws) k))) ∧ Below w0.heap.size w0 w') := fun k hk w0 => by
    have := turned_any (colOf xs k) ws w0 (colOf_col xs k hxa) hw
    rw [trn_cut xs ws k hk hw, ← cut4_col xs k ⟨hl, hxa⟩ hk] at this
    exact this
  have XL : Hid (xs.length = 16) := hl
  rw [hl] at ha1 ⊢
  generalize mixb xs ws = ms at *
  generalize cI ws = wl at *
  clear hcell ha5 hl HB16 hw hxa
  go_enter Try.func46, Try.ntmps46
  go_wp2_with (refine box_lawF _ rfl (.tmp 1) 73 rfl .u8 wl rfl ?_; intro w1 A1 B1 s1; have HA1 : Hid (Ar w1 w.heap.size 0 .u8 wl) := A1; clear A1)
  have z1 := B1.size
  go_loopw [5, 6] (fun v i wr => ∃ k : Nat, k ≤ 4 ∧ i = .int .i64 k ∧ Own w1.heap.size wr v (ckm ms k) ∧ Below w1.heap.size w1 wr) (fun _ i _ => 4 - (intOf i).toNat)
  case atStart => exact ⟨0, Nat.zero_le _, rfl, Own.empty w1 (Nat.le_refl _), (Below.refl _ _).alloc (Nat.le_refl _) _⟩
  case round =>
    obtain ⟨k, hk, rfl, hown, hbel⟩ := hrel
    have hsz := hbel.size
    have k0 : (0 : Int) ≤ (k : Int) := by omega
    have q1 : IntKind.i64.wrap (k : Int) = k := by rw [IntKind.wrap_i64]; omega
    by_cases hlt : k < 4
    · have k1 : (k : Int) < 4 := by omega
      have p0 : IntKind.i64.wrap (4 * (k : Int)) = 4 * (k : Int) := by rw [IntKind.wrap_i64]; omega
      have p1 : IntKind.i64.wrap (4 * (k : Int) + 1) = 4 * (k : Int) + 1 := by rw [IntKind.wrap_i64]; omega
      have p2 : IntKind.i64.wrap (4 * (k : Int) + 2) = 4 * (k : Int) + 2 := by rw [IntKind.wrap_i64]; omega
      have p3 : IntKind.i64.wrap (4 * (k : Int) + 3) = 4 * (k : Int) + 3 := by rw [IntKind.wrap_i64]; omega
      have hbr : bb < wr.heap.size := by omega
      have cr : ∀ t, t < 16 → ∀ w', Below wr.heap.size wr w' → w'.cell? ⟨bb, bo + t, none⟩ = some (.int .u8 (gb xs t)) := fun t ht w' h => by
        rw [h.cell hbr, hbel.cell (show bb < w1.heap.size by omega), B1.cell hbw]
        exact HC.out t ht
      have C0 : Hid (∀ w', Below wr.heap.size wr w' → w'.cell? ⟨bb, bo + 4 * k, none⟩ = some (.int .u8 (gb xs (4 * k)))) := cr (4 * k) (by omega)
      have C1 : Hid (∀ w', Below wr.heap.size wr w' → w'.cell? ⟨bb, bo + (4 * k + 1), none⟩ = some (.int .u8 (gb xs (4 * k + 1)))) := cr (4 * k + 1) (by omega)
      have C2 : Hid (∀ w', Below wr.heap.size wr w' → w'.cell? ⟨bb, bo + (4 * k + 2), none⟩ = some (.int .u8 (gb xs (4 * k + 2)))) := cr (4 * k + 2) (by omega)
      have C3 : Hid (∀ w', Below wr.heap.size wr w' → w'.cell? ⟨bb, bo + (4 * k + 3), none⟩ = some (.int .u8 (gb xs (4 * k + 3)))) := cr (4 * k + 3) (by omega)
      have ec : cut4 xs k = [gb xs (4 * k), gb xs (4 * k + 1), gb xs (4 * k + 2), gb xs (4 * k + 3)] := by
        have hc := cut4_len xs k (by rw [XL.out]; omega)
        refine ext_gb (by rw [hc]; rfl) fun t ht => ?_
        rw [hc] at ht
        rw [cut4_gb _ _ _ ht]
        match t, ht with
        | 0, _ => rfl
        | 1, _ => rfl
        | 2, _ => rfl
        | 3, _ => rfl
      have HTn : Hid (∀ w0, Calls Try.prog 61 #[.agg (ints .u8 [gb xs (4 * k), gb xs (4 * k + 1), gb xs (4 * k + 2), gb xs (4 * k + 3)]), .agg (ints .u8 wl)] w0 fun e w' => e = .returned (.agg (ints .u8 (cut4 ms k))) ∧ Below w0.heap.size w0 w') := by
        have := HTn0.out k hlt
        rw [ec] at this
        exact this
      have YL : Hid ((cut4 ms k).length = 4) := cut4_len ms k (by rw [MB.out.1]; omega)
      have YA : Hid (AllB (cut4 ms k)) := cut4_all ms k MB.out.2
      have SN : Hid (ckm ms (k + 1) = ckm ms k ++ cut4 ms k) := ckm_snoc ms k
      have RW : Hid (∀ w', Below wr.heap.size wr w' → (Instr.loadAt 73 (.pointer (some ⟨w.heap.size, 0, none⟩))).run Try.prog w' = .ok (.agg (ints .u8 wl)) w') := fun w' h => by
        have hA := (HA1.out.below hbel s1).below h (Nat.lt_of_lt_of_le s1 hsz)
        have := run_loadVar_mid (P := Try.prog) w' w.heap.size 0 73 _ _ hA.1 Try.underlying73 rfl (by rw [i_arr4]; simp [WL.out])
        simp only [Instr.loadAt, Instr.sureAddr, Sem.run_bind, Sem.run_pure, Result.andThen_ok, this]
        rfl
      have HO : Hid (Own w1.heap.size wr u5 (ckm ms k)) := hown
      have LN : Hid ((ckm ms k).length ≤ 1099511627776) := by show _ ≤ _; unfold ckm; rw [List.length_take, MB.out.1]; omega
      have hg4 := four_gb (cut4 ms k) YL.out
      clear hown cr ec
      generalize cut4 ms k = yl at *
      generalize gb xs (4 * k) = c0 at *
      generalize gb xs (4 * k + 1) = c1 at *
      generalize gb xs (4 * k + 2) = c2 at *
      generalize gb xs (4 * k + 3) = c3 at *
      have HG4 : Hid (yl = [gb yl 0, gb yl 1, gb yl 2, gb yl 3]) := hg4
      clear hg4
      go_wp2
      go_cut [7] (fun r7 wc => ∃ c : Nat, r7 = .pointer (some ⟨c, 0, none⟩) ∧ wr.heap.size ≤ c ∧ Ar wc c 0 .u8 yl ∧ Below wr.heap.size wr wc)
      case first =>
        refine wp_region_held_drew (S := fun w' => Below wr.heap.size wr w') (by kernel_rfl) (Below.refl _ _).drew (fun hS => ?_)
        refine take_lawH 0 (some 13) (.slice (some ⟨bb, bo, none⟩) 16 ca) rfl rfl (by kernel_rfl) (by kernel_rfl) (by kernel_rfl) (fun _ _ _ h => h) (Or.inl ⟨by rfl, fun w' hw' => by rfl⟩) hS ?_
        simp only [Act.put, List.setIfInBounds_toArray, List.set_cons_zero, List.set_cons_succ]
        refine take_lawH 1 (some 14) (.int .i64 (k : Int)) rfl rfl (by kernel_rfl) (by kernel_rfl) (by kernel_rfl) (fun _ _ _ h => h) (Or.inl ⟨by rfl, fun w' hw' => by rfl⟩) hS ?_
        simp only [Act.put, List.setIfInBounds_toArray, List.set_cons_zero, List.set_cons_succ]
        refine take_lawH 2 (some 15) (.int .i64 (4 * (k : Int))) rfl rfl (by kernel_rfl) (by kernel_rfl) (by kernel_rfl) (fun _ _ _ h => h) (Or.inl ⟨by rfl, fun w' hw' => by go_simp⟩) hS ?_
        simp only [Act.put, List.setIfInBounds_toArray, List.set_cons_zero, List.set_cons_succ]
        refine take_lawH 3 (some 16) (.pointer (some ⟨bb, bo + 4 * k, none⟩)) rfl rfl (by kernel_rfl) (by kernel_rfl) (by kernel_rfl) (fun _ _ _ h => h) (Or.inl ⟨by rfl, fun w' hw' => by exact exec_idxB (.tmp 13) (.tmp 15) rfl bb bo 16 ca (4 * k) _ rfl rfl (by omega) (by omega) w'⟩) hS ?_
        simp only [Act.put, List.setIfInBounds_toArray, List.set_cons_zero, List.set_cons_succ]
        refine take_lawH 4 (some 17) (.int .u8 c0) rfl rfl (by kernel_rfl) (by kernel_rfl) (by kernel_rfl) (fun _ _ _ h => h) (Or.inl ⟨by rfl, fun w' hw' => by exact exec_get (.tmp 16) rfl bb (bo + 4 * k) c0 rfl w' (C0.out w' hw')⟩) hS ?_
        simp only [Act.put, List.setIfInBounds_toArray, List.set_cons_zero, List.set_cons_succ]
        refine take_lawH 5 (some 18) (.slice (some ⟨bb, bo, none⟩) 16 ca) rfl rfl (by kernel_rfl) (by kernel_rfl) (by kernel_rfl) (fun _ _ _ h => h) (Or.inl ⟨by rfl, fun w' hw' => by rfl⟩) hS ?_
        simp only [Act.put, List.setIfInBounds_toArray, List.set_cons_zero, List.set_cons_succ]
        refine take_lawH 6 (some 19) (.int .i64 (k : Int)) rfl rfl (by kernel_rfl) (by kernel_rfl) (by kernel_rfl) (fun _ _ _ h => h) (Or.inl ⟨by rfl, fun w' hw' => by rfl⟩) hS ?_
        simp only [Act.put, List.setIfInBounds_toArray, List.set_cons_zero, List.set_cons_succ]
        refine take_lawH 7 (some 20) (.int .i64 (4 * (k : Int))) rfl rfl (by kernel_rfl) (by kernel_rfl) (by kernel_rfl) (fun _ _ _ h => h) (Or.inl ⟨by rfl, fun w' hw' => by go_simp⟩) hS ?_
        simp only [Act.put, List.setIfInBounds_toArray, List.set_cons_zero, List.set_cons_succ]
        refine take_lawH 8 (some 21) (.int .i64 (4 * (k : Int) + 1)) rfl rfl (by kernel_rfl) (by kernel_rfl) (by kernel_rfl) (fun _ _ _ h => h) (Or.inl ⟨by rfl, fun w' hw' => by go_simp⟩) hS ?_
        simp only [Act.put, List.setIfInBounds_toArray, List.set_cons_zero, List.set_cons_succ]
        refine take_lawH 9 (some 22) (.pointer (some ⟨bb, bo + (4 * k + 1), none⟩)) rfl rfl (by kernel_rfl) (by kernel_rfl) (by kernel_rfl) (fun _ _ _ h => h) (Or.inl ⟨by rfl, fun w' hw' => by exact exec_idxB (.tmp 18) (.tmp 21) rfl bb bo 16 ca (4 * k + 1) _ rfl rfl (by omega) (by omega) w'⟩) hS ?_
        simp only [Act.put, List.setIfInBounds_toArray, List.set_cons_zero, List.set_cons_succ]
        refine take_lawH 10 (some 23) (.int .u8 c1) rfl rfl (by kernel_rfl) (by kernel_rfl) (by kernel_rfl) (fun _ _ _ h => h) (Or.inl ⟨by rfl, fun w' hw' => by exact exec_get (.tmp 22) rfl bb (bo + (4 * k + 1)) c1 rfl w' (C1.out w' hw')⟩) hS ?_
        simp only [Act.put, List.setIfInBounds_toArray, List.set_cons_zero, List.set_cons_succ]
        refine take_lawH 11 (some 24) (.slice (some ⟨bb, bo, none⟩) 16 ca) rfl rfl (by kernel_rfl) (by kernel_rfl) (by kernel_rfl) (fun _ _ _ h => h) (Or.inl ⟨by rfl, fun w' hw' => by rfl⟩) hS ?_
        simp only [Act.put, List.setIfInBounds_toArray, List.set_cons_zero, List.set_cons_succ]
        refine take_lawH 12 (some 25) (.int .i64 (k : Int)) rfl rfl (by kernel_rfl) (by kernel_rfl) (by kernel_rfl) (fun _ _ _ h => h) (Or.inl ⟨by rfl, fun w' hw' => by rfl⟩) hS ?_
        simp only [Act.put, List.setIfInBounds_toArray, List.set_cons_zero, List.set_cons_succ]
        refine take_lawH 13 (some 26) (.int .i64 (4 * (k : Int))) rfl rfl (by kernel_rfl) (by kernel_rfl) (by kernel_rfl) (fun _ _ _ h => h) (Or.inl ⟨by rfl, fun w' hw' => by go_simp⟩) hS ?_
        simp only [Act.put, List.setIfInBounds_toArray, List.set_cons_zero, List.set_cons_succ]
        refine take_lawH 14 (some 27) (.int .i64 (4 * (k : Int) + 2)) rfl rfl (by kernel_rfl) (by kernel_rfl) (by kernel_rfl) (fun _ _ _ h => h) (Or.inl ⟨by rfl, fun w' hw' => by go_simp⟩) hS ?_
        simp only [Act.put, List.setIfInBounds_toArray, List.set_cons_zero, List.set_cons_succ]
        refine take_lawH 15 (some 28) (.pointer (some ⟨bb, bo + (4 * k + 2), none⟩)) rfl rfl (by kernel_rfl) (by kernel_rfl) (by kernel_rfl) (fun _ _ _ h => h) (Or.inl ⟨by rfl, fun w' hw' => by exact exec_idxB (.tmp 24) (.tmp 27) rfl bb bo 16 ca (4 * k + 2) _ rfl rfl (by omega) (by omega) w'⟩) hS ?_
        simp only [Act.put, List.setIfInBounds_toArray, List.set_cons_zero, List.set_cons_succ]
        refine take_lawH 16 (some 29) (.int .u8 c2) rfl rfl (by kernel_rfl) (by kernel_rfl) (by kernel_rfl) (fun _ _ _ h => h) (Or.inl ⟨by rfl, fun w' hw' => by exact exec_get (.tmp 28) rfl bb (bo + (4 * k + 2)) c2 rfl w' (C2.out w' hw')⟩) hS ?_
        simp only [Act.put, List.setIfInBounds_toArray, List.set_cons_zero, List.set_cons_succ]
        refine take_lawH 17 (some 30) (.slice (some ⟨bb, bo, none⟩) 16 ca) rfl rfl (by kernel_rfl) (by kernel_rfl) (by kernel_rfl) (fun _ _ _ h => h) (Or.inl ⟨by rfl, fun w' hw' => by rfl⟩) hS ?_
        simp only [Act.put, List.setIfInBounds_toArray, List.set_cons_zero, List.set_cons_succ]
        refine take_lawH 18 (some 31) (.int .i64 (k : Int)) rfl rfl (by kernel_rfl) (by kernel_rfl) (by kernel_rfl) (fun _ _ _ h => h) (Or.inl ⟨by rfl, fun w' hw' => by rfl⟩) hS ?_
        simp only [Act.put, List.setIfInBounds_toArray, List.set_cons_zero, List.set_cons_succ]
        refine take_lawH 19 (some 32) (.int .i64 (4 * (k : Int))) rfl rfl (by kernel_rfl) (by kernel_rfl) (by kernel_rfl) (fun _ _ _ h => h) (Or.inl ⟨by rfl, fun w' hw' => by go_simp⟩) hS ?_
        simp only [Act.put, List.setIfInBounds_toArray, List.set_cons_zero, List.set_cons_succ]
        refine take_lawH 20 (some 33) (.int .i64 (4 * (k : Int) + 3)) rfl rfl (by kernel_rfl) (by kernel_rfl) (by kernel_rfl) (fun _ _ _ h => h) (Or.inl ⟨by rfl, fun w' hw' => by go_simp⟩) hS ?_
        simp only [Act.put, List.setIfInBounds_toArray, List.set_cons_zero, List.set_cons_succ]
        refine take_lawH 21 (some 34) (.pointer (some ⟨bb, bo + (4 * k + 3), none⟩)) rfl rfl (by kernel_rfl) (by kernel_rfl) (by kernel_rfl) (fun _ _ _ h => h) (Or.inl ⟨by rfl, fun w' hw' => by exact exec_idxB (.tmp 30) (.tmp 33) rfl bb bo 16 ca (4 * k + 3) _ rfl rfl (by omega) (by omega) w'⟩) hS ?_
        simp only [Act.put, List.setIfInBounds_toArray, List.set_cons_zero, List.set_cons_succ]
        refine take_lawH 22 (some 35) (.int .u8 c3) rfl rfl (by kernel_rfl) (by kernel_rfl) (by kernel_rfl) (fun _ _ _ h => h) (Or.inl ⟨by rfl, fun w' hw' => by exact exec_get (.tmp 34) rfl bb (bo + (4 * k + 3)) c3 rfl w' (C3.out w' hw')⟩) hS ?_
        simp only [Act.put, List.setIfInBounds_toArray, List.set_cons_zero, List.set_cons_succ]
        refine take_lawH 23 (some 36) (.agg (ints .u8 [c0, c1, c2, c3])) rfl rfl (by kernel_rfl) (by kernel_rfl) (by kernel_rfl) (fun _ _ _ h => h) (Or.inl ⟨by rfl, fun w' hw' => by kernel_rfl⟩) hS ?_
        simp only [Act.put, List.setIfInBounds_toArray, List.set_cons_zero, List.set_cons_succ]
        refine take_lawH 24 (some 37) (.agg (ints .u8 wl)) rfl rfl (by kernel_rfl) (by kernel_rfl) (by kernel_rfl) (fun _ _ _ h => h) (Or.inl ⟨by rfl, fun w' hw' => by exact exec_loadR 73 (.tmp 3) rfl _ rfl _ _ (RW.out w' hw')⟩) hS ?_
        simp only [Act.put, List.setIfInBounds_toArray, List.set_cons_zero, List.set_cons_succ]
        obtain ⟨x0, hx0⟩ : ∃ x, x = wr.drew := ⟨_, rfl⟩
        rw [← hx0] at hS ⊢
        have b0 := hS
        clear hx0
        refine wpAnyH_ready (rs := [25, 26]) (by kernel_rfl) (by simp) ?_
        refine AllReadyH.cons rfl (fun K hK => ?_) (AllReadyH.cons rfl (fun K hK => ?_) AllReadyH.nil)
        · refine step_callD _ rfl (some 38) rfl 61 #[.tmp 36, .tmp 37] #[73, 73] rfl (fun q w' => by rfl) #[.agg (ints .u8 [c0, c1, c2, c3]), .agg (ints .u8 wl)] (by simp only [List.map_toArray, List.map_cons, List.map_nil]; rfl) (.agg (ints .u8 yl)) _ (HTn.out x0) fun x1 c1 => ?_
          have b1 : Below wr.heap.size wr x1 := b0.trans (c1.mono b0.size)
          refine hK.out _ _ b1 (fun _ => ?_)
          simp only [Act.put, List.setIfInBounds_toArray, List.set_cons_zero, List.set_cons_succ]
          refine wpAnyH_ready (rs := [26]) (by kernel_rfl) (by simp) ?_
          refine AllReadyH.cons rfl (fun K hK => ?_) AllReadyH.nil
          refine step_newG _ rfl (some 7) rfl 73 rfl .u8 z4 z_arr4 fun x2 a2 c2 l2 => ?_
          have b2 : Below wr.heap.size wr x2 := b1.trans (c2.mono b1.size)
          have gl := b1.size
          refine hK.out _ _ b2 (fun _ => ?_)
          simp only [Act.put, List.setIfInBounds_toArray, List.set_cons_zero, List.set_cons_succ]
          generalize x1.heap.size = gg at *
          refine wpAnyH_ready (rs := [27]) (by kernel_rfl) (by simp) ?_
          refine AllReadyH.cons rfl (fun K hK => ?_) AllReadyH.nil
          refine step_storeG _ rfl none rfl (.tmp 7) (.tmp 38) 73 rfl .u8 z4 yl gg rfl rfl a2 4 i_arr4 rfl YL.out fun x3 a3 c3 => ?_
          have b3 : Below wr.heap.size wr x3 := b2.trans (c3.mono gl)
          refine hK.out _ _ b3 (fun _ => ?_)
          simp only [Act.put, List.setIfInBounds_toArray, List.set_cons_zero, List.set_cons_succ]
          refine wpAnyH_done (by kernel_rfl) ?_ _
          go_wp2_with fail
          go_meet
          exact ⟨gg, rfl, gl, a3, b3⟩
        · refine step_newG _ rfl (some 7) rfl 73 rfl .u8 z4 z_arr4 fun x4 a4 c4 l4 => ?_
          have b4 : Below wr.heap.size wr x4 := b0.trans (c4.mono b0.size)
          have gl := b0.size
          refine hK.out _ _ b4 (fun _ => ?_)
          simp only [Act.put, List.setIfInBounds_toArray, List.set_cons_zero, List.set_cons_succ]
          generalize x0.heap.size = gg at *
          refine wpAnyH_ready (rs := [25]) (by kernel_rfl) (by simp) ?_
          refine AllReadyH.cons rfl (fun K hK => ?_) AllReadyH.nil
          refine step_callD _ rfl (some 38) rfl 61 #[.tmp 36, .tmp 37] #[73, 73] rfl (fun q w' => by rfl) #[.agg (ints .u8 [c0, c1, c2, c3]), .agg (ints .u8 wl)] (by simp only [List.map_toArray, List.map_cons, List.map_nil]; rfl) (.agg (ints .u8 yl)) _ (HTn.out x4) fun x5 c5 => ?_
          have b5 : Below wr.heap.size wr x5 := b4.trans (c5.mono b4.size)
          have a5 : Ar x5 gg 0 .u8 z4 := a4.below c5 l4
          have l5 : gg < x5.heap.size := Nat.lt_of_lt_of_le l4 c5.size
          refine hK.out _ _ b5 (fun _ => ?_)
          simp only [Act.put, List.setIfInBounds_toArray, List.set_cons_zero, List.set_cons_succ]
          refine wpAnyH_ready (rs := [27]) (by kernel_rfl) (by simp) ?_
          refine AllReadyH.cons rfl (fun K hK => ?_) AllReadyH.nil
          refine step_storeG _ rfl none rfl (.tmp 7) (.tmp 38) 73 rfl .u8 z4 yl gg rfl rfl a5 4 i_arr4 rfl YL.out fun x6 a6 c6 => ?_
          have b6 : Below wr.heap.size wr x6 := b5.trans (c6.mono gl)
          refine hK.out _ _ b6 (fun _ => ?_)
          simp only [Act.put, List.setIfInBounds_toArray, List.set_cons_zero, List.set_cons_succ]
          refine wpAnyH_done (by kernel_rfl) ?_ _
          go_wp2_with fail
          go_meet
          exact ⟨gg, rfl, gl, a6, b6⟩
      case rest =>
        obtain ⟨g7, rfl, hg7, hA7, hB7⟩ := hcut
        have d0 := hA7.cell0 0 (by rw [YL.out]; omega)
        have d1 := hA7.cell0 1 (by rw [YL.out]; omega)
        have d2 := hA7.cell0 2 (by rw [YL.out]; omega)
        have d3 := hA7.cell0 3 (by rw [YL.out]; omega)
        have HO7 : Hid (Own w1.heap.size wc u5 (ckm ms k)) := World.ownsRow.kept (row := none) HO.out ⟨hB7.os, hB7.tape, hB7.output, hB7.size, fun j hj _ => hB7.block j hj⟩ (by cases hv : Value.ownBlock u5 <;> simp)
        have s7 : w1.heap.size ≤ wc.heap.size := Nat.le_trans hsz hB7.size
        have Y7 : Hid (∀ T, Byt (wc.alloc (.cells (ints .u8 [gb yl 0, gb yl 1, gb yl 2, gb yl 3]) T)) (.slice (some ⟨wc.heap.size, 0, none⟩) 4 4) yl) := fun T => by
          have h := Ar.new wc T .u8 [gb yl 0, gb yl 1, gb yl 2, gb yl 3]
          rw [← HG4.out] at h ⊢
          exact h.bytG YA.out 4 4 YL.out (by omega) (by omega)
        generalize gb yl 0 = e0 at *
        generalize gb yl 1 = e1 at *
        generalize gb yl 2 = e2 at *
        generalize gb yl 3 = e3 at *
        go_wp2_with (at_builtin; refine pushs_lawG _ rfl (.tmp 39) (.tmp 48) rfl w1.heap.size (by simp; omega) _ _ _ yl rfl rfl (World.ownsRow.alloc HO7.out _) (Y7.out _) LN.out (by rw [YL.out]; omega) ?_; intro v8 w8 o8 b8)
        rw [← SN.out] at o8
        have HB8 : Hid (Below w1.heap.size w1 w8) := (hbel.trans (hB7.mono hsz)).trans ((((Below.refl w1.heap.size wc).alloc s7 _)).trans b8)
        have HO8 : Hid (Own w1.heap.size w8 v8 (ckm ms (k + 1))) := o8
        clear o8 b8 d0 d1 d2 d3
        go_roundw
        case rel => exact ⟨k + 1, by omega, by go_num, HO8.out, HB8.out⟩
        case measure => simp [intOf]; omega
    · have hk4 : k = 4 := by omega
      subst hk4
      have e : ckm ms 4 = ms := List.take_of_length_le (by rw [MB.out.1]; omega)
      rw [e] at hown
      clear e
      go_wp2
      go_ret
      exact ⟨_, rfl, hown.byt MB.out.2, B1.trans (hbel.mono z1)⟩
end Go.Proofs.Ytifepmdhbhdjpaa

/- What the reference's Shift answers. No claim of its own. -/
namespace Go.Proofs.Ytifepmdhbhdjpaa
open Go.RowKit
set_option maxRecDepth 20000

set_option maxRecDepth 20000 in
set_option maxHeartbeats 4000000 in
theorem rshift_any (v : Value) (xs : List Int) (n : Nat) (w : World) (hv : Byt w v xs) (hl : xs.length = 16) (hn : n ≤ 3) :
    Calls Try.prog 48 #[v, .int .i64 n] w fun e w' => ∃ g, e = .returned (.slice (some ⟨g, 0, none⟩) 16 16) ∧ Ar w' g 0 .u8 (shl16 xs n) ∧ w.heap.size ≤ g ∧ Below w.heap.size w w' := by
  obtain ⟨ao, ca, rfl, ha1, ha2, ha3, -, ha5⟩ := hv
  obtain ⟨bb, bo, rfl, hcell⟩ := ha5 (by omega)
  have HC : Hid (∀ t, t < 16 → w.cell? ⟨bb, bo + t, none⟩ = some (.int .u8 (gb xs t))) := fun t ht => hcell t (by omega)
  have hbw : bb < w.heap.size := World.block_lt_of_cell? w _ (hcell 0 (by omega))
  have HZ : Hid (prs xs n 0 = z16 ∧ prs xs n 16 = shl16 xs n ∧ (shl16 xs n).length = 16) := ⟨prs_zero xs n, prs_end xs n, shl16_len xs n⟩
  have HPS : Hid (∀ t, (prs xs n t).set t (gb xs (shi t n)) = prs xs n (t + 1)) := prs_set xs n
  rw [hl]
  generalize shl16 xs n = zs at *
  clear hcell ha5 hl ha3
  go_enter Try.func48, Try.ntmps48
  go_wp2_with (at_make; refine make_law _ rfl _ _ rfl w.heap.size (Nat.le_refl _) 16 16 rfl rfl rfl (by omega) ?_; intro w1 hown B1 s1; have HO1 : Hid (Ar w1 w.heap.size 0 .u8 z16) := hown.arG; clear hown)
  generalize hg0 : w.heap.size = g0 at *
  go_loopw [6] (fun i wr => ∃ k : Nat, k ≤ 16 ∧ i = .int .i64 k ∧ Ar wr g0 0 .u8 (prs xs n k) ∧ Below g0 w wr) (fun i _ => 16 - (intOf i).toNat)
  case atStart => exact ⟨0, Nat.zero_le _, rfl, by rw [HZ.out.1]; exact HO1.out, B1⟩
  case round =>
    obtain ⟨k, hk, rfl, hA, hB⟩ := hrel
    have k0 : (0 : Int) ≤ (k : Int) := by omega
    have q1 : IntKind.i64.wrap (k : Int) = k := by rw [IntKind.wrap_i64]; omega
    by_cases hlt : k < 16
    · have k1 : (k : Int) < 16 := by omega
      obtain ⟨a, ha⟩ : ∃ a, a = k / 4 := ⟨_, rfl⟩
      obtain ⟨b, hb⟩ : ∃ b, b = k % 4 := ⟨_, rfl⟩
      obtain ⟨m, hm⟩ : ∃ m, m = n * b := ⟨_, rfl⟩
      have m9 : m ≤ 9 := by rw [hm]; have : n * b ≤ 3 * 3 := Nat.mul_le_mul hn (by omega); omega
      obtain ⟨c, hc⟩ : ∃ c, c = (a + m) % 4 := ⟨_, rfl⟩
      have t1 : (k : Int).tdiv 4 = (a : Int) := by rw [Int.tdiv_eq_ediv_of_nonneg (by omega)]; omega
      have t2 : (k : Int).tmod 4 = (b : Int) := by rw [Int.tmod_eq_emod_of_nonneg (by omega)]; omega
      have t3 : (n : Int) * (b : Int) = (m : Int) := by rw [hm]; simp
      have t4 : ((a : Int) + (m : Int)).tmod 4 = (c : Int) := by rw [Int.tmod_eq_emod_of_nonneg (by omega)]; omega
      have u1 : IntKind.i64.wrap (a : Int) = a := by rw [IntKind.wrap_i64]; omega
      have u2 : IntKind.i64.wrap (b : Int) = b := by rw [IntKind.wrap_i64]; omega
      have u3 : IntKind.i64.wrap (m : Int) = m := by rw [IntKind.wrap_i64]; omega
      have u4 : IntKind.i64.wrap ((a : Int) + (m : Int)) = (a : Int) + (m : Int) := by rw [IntKind.wrap_i64]; omega
      have u5 : IntKind.i64.wrap (c : Int) = c := by rw [IntKind.wrap_i64]; omega
      have u6 : IntKind.i64.wrap (4 * (c : Int)) = 4 * (c : Int) := by rw [IntKind.wrap_i64]; omega
      obtain ⟨j, hj⟩ : ∃ j, j = 4 * c + b := ⟨_, rfl⟩
      have t5 : 4 * (c : Int) + (b : Int) = (j : Int) := by omega
      have u7 : IntKind.i64.wrap (j : Int) = j := by rw [IntKind.wrap_i64]; omega
      have hjs : shi k n = j := by unfold shi; rw [← ha, ← hb, ← hm, ← hc, ← hj]
      have j16 : j < 16 := by omega
      have j0 : (0 : Int) ≤ (j : Int) := by omega
      have j1 : (j : Int) < 16 := by omega
      have c1 : wr.cell? ⟨bb, bo + j, none⟩ = some (.int .u8 (gb xs j)) := (hB.cell hbw).trans (HC.out j j16)
      have c3 := hA.cell0 k (by rw [prs_len]; omega)
      have c4 := hA.free0 k (by rw [prs_len]; omega)
      have hA2 : Hid (Ar (wr.setCell ⟨g0, k, none⟩ (.int .u8 (gb xs j))) g0 0 .u8 (prs xs n (k + 1))) := by
        have h := hA.set0 k (by rw [prs_len]; omega) (gb xs j)
        have e := HPS.out k
        rw [hjs] at e
        rw [e] at h
        exact h
      have hB2 : Hid (Below g0 w (wr.setCell ⟨g0, k, none⟩ (.int .u8 (gb xs j)))) := hB.setCell (Nat.le_refl _) _
      clear hA ha hb hm hc hj hjs
      generalize gb xs j = y at *
      go_wp2
      go_roundw
      case rel => exact ⟨k + 1, by omega, by go_num, hA2.out, hB2.out⟩
      case measure => simp [intOf]; omega
    · have hk16 : k = 16 := by omega
      subst hk16
      rw [HZ.out.2.1] at hA
      go_wp2
      go_ret
      exact ⟨g0, rfl, hA, by omega, by rw [hg0]; exact hB⟩
end Go.Proofs.Ytifepmdhbhdjpaa

