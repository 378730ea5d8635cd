/- Parts of the proof: what ScanBlocks reaches. No claim of its own. -/
import Derived.Lib.MakeNoZero
import Derived.Laws.AppendOwnNone
import Derived.Deep.DeepCutAuto
import Derived.ArgAppend
import Derived.WalkKit
import Derived.WalkSmall
import Derived.ProofKit
import Derived.OpenShut
import Derived.BigQuiet
import Derived.Deep.QuietTactic
import Derived.Deep.RegionHeld3
import Derived.Lib.SliceRun
import Derived.Deep.WholeRow
import Derived.Deep.MidRow
import Derived.Laws.StructEq
import Derived.Test.YtmbgokmomkmgcaaGreatDoorK00
import Derived.Test.YtmbgokmomkmgcaaGreatDoorK02
import Derived.Test.YtmbgokmomkmgcaaGreatDoorK08
import Derived.Test.YtmbgokmomkmgcaaGreatDoorK09
import Derived.Test.YtmbgokmomkmgcaaGreatDoorK10
import Derived.Test.YtmbgokmomkmgcaaGreatDoorK11
import Derived.Test.YtmbgokmomkmgcaaGreatDoorK12
import Derived.Test.YtmbgokmomkmgcaaGreatDoorK13
set_option maxHeartbeats 8000000
namespace Go.Proofs.YtmbgokmomkmgcaaGreatDoor.na
open Go.RowKit Go.Proofs.YtmbgokmomkmgcaaGreatDoor.fa
set_option maxRecDepth 20000
def msk : Option (Bool × List Int) → List Int
  | none => []
  | some (_, m) => m
theorem at_pln {w : World} {pv : Value} {pl : Pln} (h : Pla w pv pl) (n : Nat) :
    Calls Tryz.prog 137 #[pv, .int .i64 (n : Int)] w fun e w' => ∃ f : Int × Bool × Value, e = .returned (.tuple #[fv f, .bool (pl n).isSome]) ∧ f.2.1 = crs (pl n) ∧ Byt w' f.2.2 (msk (pl n)) ∧ Below w.heap.size w w' := by
  obtain ⟨fs, ms, h1, h2, h3, h4, h5⟩ := h
  refine (at_any pv fs ms n w h1 h2).mono ?_
  rintro e w' ⟨f, ok, rfl, hb, a1, a2⟩
  rcases fst_or fs n with ⟨t, ht⟩ | hn
  · obtain ⟨rfl, b1, b2, b3⟩ := a1 t ht
    have e := (h5 n).1 t ht
    rw [e]
    exact ⟨f, rfl, b2, b3, hb⟩
  · obtain ⟨rfl, rfl⟩ := a2 hn
    have e := (h5 n).2 hn
    rw [e]
    exact ⟨f0, rfl, rfl, Byt.nil w', hb⟩
theorem zero_flt : (Tryz.prog.info? 179).map (fun i => (i.zero, i.size)) = some (some (.agg ([.int .i64 0, .bool false, .slice none 0 0] : List Value).toArray), 3) := by kernel_rfl
theorem info_op : (Tryz.prog.info? 197).map (fun i => (i.zero, i.size, i.bytes)) = some (some (.agg #[.int .i64 0, .int .i64 0, .int .i64 0, .slice none 0 0, .int .i64 0]), 5, 56) := by kernel_rfl
theorem build_op (x y z u : Int) (v : Value) (w : World) : (Instr.buildSlice 105 1 #[(0, .agg ([.int .i64 x, .int .i64 y, .int .i64 z, v, .int .i64 u] : List Value).toArray)]).run Tryz.prog w = .ok (.slice (some ⟨w.heap.size, 0, none⟩) 1 1) (w.alloc (.cells ([.int .i64 x, .int .i64 y, .int .i64 z, v, .int .i64 u] : List Value).toArray 197)) := by kernel_rfl
def ope (o : Opn) (e : Int) : Opn := (o.1, o.2.1, o.2.2.1, o.2.2.2.1, e)
theorem opc_set (o : Opn) (dv : Value) (e : Int) : (opc o dv).set 4 (.int .i64 e) = opc (ope o e) dv := rfl
theorem opc_one (o : Opn) (dv : Value) (h : dv.oneCell' = true) : ∀ u ∈ [opc o dv].flatten, u.oneCell' = true := fun u hu => by
  simp [opc] at hu
  rcases hu with rfl | rfl | rfl | rfl | rfl
  · rfl
  · rfl
  · rfl
  · exact h
  · rfl
theorem laid_all {xs ys : List Int} {o : Nat} (hx : AllB xs) (hy : AllB ys) (hl : o + ys.length ≤ xs.length) : AllB (laid xs o ys) := fun j => by
  rw [gb_laid xs o ys hl j]
  split
  · exact hx _
  · split
    · exact hy _
    · exact hx _
theorem byt_flt {w : World} {v : Value} {xs : List Int} {b : Nat} {f f' : Int × Bool × Value} (h : Byt w v xs) (hf : FlA w b 0 f) (hm : ∀ x, f.2.2 ≠ .int .u8 x) : Byt (w.setCells b 0 (fl f')) v xs := by
  have h1 := byt_other (u := .int .i64 f'.1) h hf.1 (by intro x e; cases e)
  have c1 : (w.setCell ⟨b, 0, none⟩ (.int .i64 f'.1)).cell? ⟨b, 0 + 1, none⟩ = some (.bool f.2.1) := by
    rw [World.cell?_setCell_other _ _ _ _ (by intro e; injection e with _ e2; omega)]; exact hf.2.1
  have h2 := byt_other (u := .bool f'.2.1) h1 c1 (by intro x e; cases e)
  have c2 : ((w.setCell ⟨b, 0, none⟩ (.int .i64 f'.1)).setCell ⟨b, 0 + 1, none⟩ (.bool f'.2.1)).cell? ⟨b, 0 + 2, none⟩ = some f.2.2 := by
    rw [World.cell?_setCell_other _ _ _ _ (by intro e; injection e with _ e2; omega), World.cell?_setCell_other _ _ _ _ (by intro e; injection e with _ e2; omega)]; exact hf.2.2
  exact byt_other (u := f'.2.2) h2 c2 hm
section
variable {ops : Array Oper} {o : Oper} {a : Act} {Q : Exit → Act → World → Prop} {K : Act → World → Prop} {E : Prop}
theorem step_storeF (w : World) (hg : o.guard = none) (d : Option Tmp) (hd : o.dst = d) (x y : Operand) (hop : o.op = Op.store 179 x y) (c : Nat) (f : Int × Bool × Value) (hx : a.eval x = .pointer (some ⟨c, 0, none⟩)) (hy : a.eval y = fv f) (ht : w.there c 0 3) (hm : f.2.2.oneCell' = true)
    (hK : ∀ w', Hid (w' = w.setCells c 0 (fl f)) → FlV w' c f → Below c w w' → K (a.put d undef) w') : if Region.wanted o (yielded ops a.tmps) = true then Oper.wp Tryz.prog o a w K Q else E := by
  have hw : Region.wanted o (yielded ops a.tmps) = true := by simp [Region.wanted, hg]
  rw [if_pos hw]
  subst hd
  refine wp_store_mid 179 x y hop c 0 (fl f).toArray hx hy ht (by rw [size_fault]; rfl) (all_oneCell_toArray fun v hv => ?_) ?_
  · simp [fl] at hv
    rcases hv with rfl | rfl | rfl
    · rfl
    · rfl
    · exact hm
  · exact hK _ rfl ⟨FlA.of (World.rangeAt_setCells_same w c 0 (fl f) ht), World.there_setCells ht c 0 _⟩ (below_cells _ (Nat.le_refl _) _ _ (Below.refl _ _))
end
theorem Frm.trans' {M M' : Nat → Bool} {a b : World} (h : Frm M' a b) (hM : ∀ k, k < a.heap.size → M' k = M k) : Frm M a b := ⟨h.1, h.2.1, h.2.2.1, h.2.2.2.1, fun k hk q => h.2.2.2.2 k hk ((hM k hk).trans q)⟩
theorem own_one {w : World} {v : Value} {e : TypeId} {k : Nat} {ess : List (List Value)} (h : OwR 0 w v e k ess) : v.oneCell' = true := by
  obtain ⟨ao, cap, rfl⟩ := h.rws.form
  rfl
theorem own_cells {w : World} {v : Value} {e : TypeId} {k : Nat} {ess : List (List Value)} (h : OwR 0 w v e k ess) : v.cells = #[v] := by
  obtain ⟨ao, cap, rfl⟩ := h.rws.form
  rfl
theorem lay_on {M : Nat → Bool} {w : World} {c r d : Nat} {q : Nat → Nat} {pv tv : Value} {g : List Int} {N P S : Nat} {pl : Pln} {a : List Int} {b : Nat → List Int} {e : Nat → Int} {s : Nat → Bool} {on : Bool} {t : List Opn} (h : Lay M w c r d q pv tv g N P S pl (mkX a b e s on t)) (ho : on = true) : Lay M w c r d q pv tv g N P S pl (mkX a b e s true t) := by
  subst ho; exact h
def Perf (M : Nat → Bool) (w : World) (c r d : Nat) (q : Nat → Nat) (pv : Value) (g : List Int) (N P S : Nat) (pl : Pln) (X : Raw) (off : Nat) (rs : List Int) (o : Opn) (po : Option (Bool × List Int)) (e : Ending) (w' : World) : Prop :=
  ∃ M' tv', e = .returned (.int .i64 (ans po)) ∧ Lay M' w' c r d q pv tv' g N P S pl (mkX (laid (xi X) off rs) (xp X) (xe X) (xs X) (!crs po) (xt X ++ [ope o (ans po)])) ∧ (∀ k, k < w.heap.size → M' k = M k) ∧ Frm M w w' ∧ Mlt M' w'
section
variable {M : Nat → Bool} {w : World} {c r d : Nat} {q : Nat → Nat} {pv tv : Value} {g : List Int} {N P S : Nat} {pl : Pln} {X : Raw}
theorem perf_end {B : Nat} {x x' : World} {tv' : Value} {Y : Raw} (hB : B = w.heap.size) (hM : Mlt M w) (F : Frm (fun k => M k || decide (B ≤ k)) w x) (same : ∀ k, k < x.heap.size → ((fun k => M k || decide (B ≤ k)) k || decide (tv'.ownBlock = some k)) = (fun k => M k || decide (B ≤ k)) k)
    (L : Lay (fun k => (fun k => M k || decide (B ≤ k)) k || decide (tv'.ownBlock = some k)) x' c r d q pv tv' g N P S pl Y) (F2 : Frm (fun k => M k || decide (B ≤ k)) x x') (lt : ∀ k, tv'.ownBlock = some k → k < x'.heap.size) (hS : Sep M c r d q N) :
    Lay (fun k => M k || decide (tv'.ownBlock = some k)) x' c r d q pv tv' g N P S pl Y ∧ (∀ k, k < w.heap.size → (M k || decide (tv'.ownBlock = some k)) = M k) ∧ Frm M w x' ∧ Mlt (fun k => M k || decide (tv'.ownBlock = some k)) x' := by
  have hz := F.size
  have e1 : ∀ k, k < w.heap.size → (M k || decide (B ≤ k)) = M k := fun k hk => by
    have : ¬ (B ≤ k) := by omega
    simp [this]
  refine ⟨L.less (fun k hk => ?_) (by simp [hS.1.1]) (by simp [hS.1.2.1]) (by simp [hS.1.2.2.1]) (fun b hb => by simp [hS.1.2.2.2 b hb]) (fun k hk => by simp [hk]), fun k hk => ?_, ?_, fun k hk => ?_⟩
  · rcases Bool.or_eq_true _ _ ▸ hk with h | h
    · simp [h]
    · simp only [h, Bool.or_true]
  · have h1 := same k (by omega)
    have h2 := e1 k hk
    cases hd : decide (tv'.ownBlock = some k) with
    | false => simp
    | true =>
      rw [hd] at h1
      simp only [Bool.or_true] at h1 ⊢
      rw [h2] at h1
      exact h1
  · exact (F.tr F2).trans' e1
  · rcases Bool.or_eq_true _ _ ▸ hk with h | h
    · exact Nat.lt_of_lt_of_le (hM k h) (Nat.le_trans F.size F2.size)
    · exact lt k (by simpa using h)
set_option maxHeartbeats 8000000 in
theorem perform_none (h : Lay M w c r d q pv tv g N P S pl X) (hM : Mlt M w) (hon : xo X = true) (o : Opn) (ho : o.2.2.2.2 = 0) (dv : Value) (off len cap : Nat) (deed : Value) (R : Option (Bool × List Int) → List Int) (hpl : pl (xt X).length = none)
    (hD : Deed w deed (.slice (some ⟨d, off, none⟩) len cap) R) (hd : Byt (hid M w) dv o.2.2.2.1) (hf : off + len ≤ N * (P * S)) (hR : (R none).length = len ∧ AllB (R none)) (htr : (xt X).length ≤ 1000000) :
    Calls Tryz.prog 98 #[.pointer (some ⟨c, 0, none⟩), .agg (opc o dv).toArray, .slice (some ⟨d, off, none⟩) len cap, deed] w (Perf M w c r d q pv g N P S pl X off (R none) o none) := by
  obtain ⟨B, hB⟩ : ∃ B, B = w.heap.size := ⟨_, rfl⟩
  have hmore : ∀ k, k < w.heap.size → (M k || decide (B ≤ k)) = M k := fun k hk => by
    have : ¬ (B ≤ k) := by omega
    simp [this]
  obtain ⟨tq, tc, htv⟩ : ∃ tq tc, tv = .slice tq (xt X).length tc := by
    obtain ⟨dvs, tO, -, -⟩ := h.2.2.2.2.2.2.2.1
    obtain ⟨tq, tc, e⟩ := tO.rws.form
    rw [opcs_len] at e
    exact ⟨tq, tc, e⟩
  subst htv
  have HL : Hid (Lay (fun k => M k || decide (B ≤ k)) w c r d q pv (.slice tq (xt X).length tc) g N P S pl X) := h.more hmore
  have HNE : Hid (∀ x, B ≤ x → c ≠ x ∧ r ≠ x ∧ d ≠ x ∧ (∀ b, b < N → q b ≠ x) ∧ ∀ k, (Value.slice tq (xt X).length tc).ownBlock = some k → k ≠ x) := fun x hx => by
    obtain ⟨dvs, tO, -, -⟩ := h.2.2.2.2.2.2.2.1
    obtain ⟨b1, b2, b3, b4⟩ := h.2.2.2.2.2.2.2.2.2
    exact ⟨by omega, by omega, by omega, fun b hb => by have := b4 b hb; omega, fun k hk => by have := (tO.1.lt k hk).2; omega⟩
  have HSep : Hid (Sep M c r d q N) := h.2.1
  have HMlt : Hid (Mlt M w) := hM
  have HDe : Hid (Deed w deed (.slice (some ⟨d, off, none⟩) len cap) R) := hD
  obtain ⟨K1, c1, K2, c2, rfl, cf1, cf2, -, -⟩ := hD
  have HD : Hid (Byt (hid (fun k => M k || decide (B ≤ k)) w) dv o.2.2.2.1) := hd.below ((Frm.refl M w).hid hmore)
  have hdo : dv.oneCell' = true := byt_one_cell hd
  have SA : Hid (∀ w0, Below w.heap.size w w0 → Calls Tryz.prog 137 #[pv, .int .i64 ((xt X).length : Int)] w0 fun e w' => ∃ f : Int × Bool × Value, e = .returned (.tuple #[fv f, .bool false]) ∧ f.2.1 = false ∧ Byt w' f.2.2 (msk none) ∧ Below w0.heap.size w0 w') := fun w0 hw => by
    have := at_pln (hid_pla (h.below hw).2.2.2.2.2.2.2.2.1) (xt X).length
    rw [hpl] at this
    exact this
  have HON : Hid (xo X = true) := hon
  have HR : Hid ((R none).length = len ∧ AllB (R none)) := hR
  have HI : Hid (off + len ≤ (xi X).length ∧ off + len ≤ N * (P * S)) := ⟨by rw [h.2.2.2.2.1.2.1]; exact hf, hf⟩
  obtain ⟨ok1, ob, op, od, oe⟩ := o
  have ho' : oe = 0 := ho
  subst ho'
  obtain ⟨n, hn⟩ : ∃ n, (xt X).length = n := ⟨_, rfl⟩
  rw [hn] at SA HL HNE htr hpl
  have HN : Hid ((xt X).length = n) := hn
  have HB : Hid (B = w.heap.size) := hB
  clear h hd ho hR hon hf hn hpl hmore hM hB
  have t0 : (0 : Nat) = 0 := rfl
  go_enter Tryz.func98, Tryz.ntmps98
  go_wp2_with (first
    | (have q1 := t1; refine box_lawC _ [.func (.func K1) #[] c1, .func (.func K2) #[] c2] rfl ?_; intro w2 V2 B2 l2; have HV2 : Hid (Vr w2 w1.heap.size [.func (.func K1) #[] c1, .func (.func K2) #[] c2]) := V2; have HV1 : Hid (Vr w2 w.heap.size (opc (opn ok1 ob op od 0) dv)) := HV1.out.below B2 l1; have BB : Hid (Below w.heap.size w w2) := BB.out.trans (B2.mono (Nat.le_of_lt l1)); clear V2 B2 t1)
    | (have q0 := t0; refine box_lawC _ (opc (opn ok1 ob op od 0) dv) rfl ?_; intro w1 V1 B1 l1; have HV1 : Hid (Vr w1 w.heap.size (opc (opn ok1 ob op od 0) dv)) := V1; have BB : Hid (Below w.heap.size w w1) := B1; clear V1 B1 t0; have t1 : (1 : Nat) = 1 := rfl))
  have HL : Hid (Lay (fun k => M k || decide (B ≤ k)) w2 c r d q pv (.slice tq n tc) g N P S pl X) := HL.out.below BB.out
  obtain ⟨h1, e1⟩ : ∃ x, x = w.heap.size := ⟨_, rfl⟩
  obtain ⟨h2, e2⟩ : ∃ x, x = w1.heap.size := ⟨_, rfl⟩
  rw [← e1] at HV1
  rw [← e2] at HV2
  have l12 : Hid (B = h1 ∧ h1 < h2 ∧ h2 < w2.heap.size) := ⟨by rw [e1]; exact HB.out, by omega, by omega⟩
  rw [← e1, ← e2]
  clear e1 e2 l1 l2
  go_cut [9, 10] (fun r9 r10 wc => ∃ (hf : Nat) (f : Int × Bool × Value), r9 = .pointer (some ⟨hf, 0, none⟩) ∧ r10 = .bool false ∧ FlV wc hf f ∧ f.2.1 = false ∧ Byt wc f.2.2 (msk none) ∧ Below w2.heap.size w2 wc ∧ w2.heap.size ≤ hf)
  case first =>
    refine wp_region_held_drew (S := fun w' => Below w2.heap.size w2 w') (by kernel_rfl) (Below.refl _ _).drew (fun hS => ?_)
    obtain ⟨x1, hx0⟩ : ∃ x, x = w2.drew := ⟨_, rfl⟩
    rw [← hx0] at hS  ⊢
    clear hx0
    refine take_lawH 0 (some 12) (.pointer (some ⟨c, 0, none⟩)) rfl rfl (by kernel_rfl) (by kernel_rfl) (by kernel_rfl) (fun _ _ _ h => h) (Or.inl ⟨by rfl, fun w' hw' => by rfl⟩) hS ?_
    simp only [Act.put, List.setIfInBounds_toArray, List.set_cons_zero, List.set_cons_succ]
    refine take_lawH 1 (some 13) (.pointer (some ⟨c, 0, none⟩)) rfl rfl (by kernel_rfl) (by kernel_rfl) (by kernel_rfl) (fun _ _ _ h => h) (Or.inl ⟨by rfl, fun w' hw' => by go_simp⟩) hS ?_
    simp only [Act.put, List.setIfInBounds_toArray, List.set_cons_zero, List.set_cons_succ]
    refine take_lawH 2 (some 14) (.pointer (some ⟨c, 6, none⟩)) rfl rfl (by kernel_rfl) (by kernel_rfl) (by kernel_rfl) (fun _ _ _ h => h) (Or.inl ⟨by rfl, fun w' hw' => by go_simp⟩) hS ?_
    simp only [Act.put, List.setIfInBounds_toArray, List.set_cons_zero, List.set_cons_succ]
    refine take_lawH 3 (some 15) (pv) rfl rfl (by kernel_rfl) (by kernel_rfl) (by kernel_rfl) (fun _ _ _ h => h) (Or.inl ⟨by rfl, fun w' hw' => by exact exec_loadN 36 (.tmp 14) rfl _ rfl _ _ (load_one one_faults (HL.out.below hw').cells.1)⟩) hS ?_
    simp only [Act.put, List.setIfInBounds_toArray, List.set_cons_zero, List.set_cons_succ]
    refine take_lawH 4 (some 16) (.pointer (some ⟨c, 0, none⟩)) rfl rfl (by kernel_rfl) (by kernel_rfl) (by kernel_rfl) (fun _ _ _ h => h) (Or.inl ⟨by rfl, fun w' hw' => by rfl⟩) hS ?_
    simp only [Act.put, List.setIfInBounds_toArray, List.set_cons_zero, List.set_cons_succ]
    refine take_lawH 5 (some 17) (.pointer (some ⟨c, 0, none⟩)) rfl rfl (by kernel_rfl) (by kernel_rfl) (by kernel_rfl) (fun _ _ _ h => h) (Or.inl ⟨by rfl, fun w' hw' => by go_simp⟩) hS ?_
    simp only [Act.put, List.setIfInBounds_toArray, List.set_cons_zero, List.set_cons_succ]
    refine take_lawH 6 (some 18) (.pointer (some ⟨c, 10, none⟩)) rfl rfl (by kernel_rfl) (by kernel_rfl) (by kernel_rfl) (fun _ _ _ h => h) (Or.inl ⟨by rfl, fun w' hw' => by go_simp⟩) hS ?_
    simp only [Act.put, List.setIfInBounds_toArray, List.set_cons_zero, List.set_cons_succ]
    refine take_lawH 7 (some 19) (.slice tq n tc) rfl rfl (by kernel_rfl) (by kernel_rfl) (by kernel_rfl) (fun _ _ _ h => h) (Or.inl ⟨by rfl, fun w' hw' => by exact exec_loadN 105 (.tmp 18) rfl _ rfl _ _ (load_one one_oprs (HL.out.below hw').cells.2.2.2.2)⟩) hS ?_
    simp only [Act.put, List.setIfInBounds_toArray, List.set_cons_zero, List.set_cons_succ]
    refine take_lawH 8 (some 20) (.int .i64 (n : Int)) rfl rfl (by kernel_rfl) (by kernel_rfl) (by kernel_rfl) (fun _ _ _ h => h) (Or.inl ⟨by rfl, fun w' hw' => by go_simp⟩) hS ?_
    simp only [Act.put, List.setIfInBounds_toArray, List.set_cons_zero, List.set_cons_succ]
    refine wpAnyH_ready (rs := [9, 13]) (by kernel_rfl) (by simp) ?_
    refine AllReadyH.cons rfl (fun K hK => ?_) (AllReadyH.cons rfl (fun K hK => ?_) AllReadyH.nil)
    · refine ge.step_callW _ (by rfl) (some 21) rfl 137 #[.tmp 15, .tmp 20] #[36, 3] rfl (fun q w' => by rfl) #[pv, .int .i64 (n : Int)] (by simp only [List.map_toArray, List.map_cons, List.map_nil]; rfl) (fun v w' => ∃ f : Int × Bool × Value, v = .tuple #[fv f, .bool false] ∧ f.2.1 = false ∧ Byt w' f.2.2 (msk none) ∧ Below x1.heap.size x1 w') ?_ ?_
      · refine (SA.out x1 (BB.out.trans (hS.mono BB.out.size))).mono ?_
        rintro e w' ⟨f, rfl, y⟩
        exact ⟨_, rfl, f, rfl, y⟩
      rintro _ x2 ⟨f, rfl, hcr, y, hb⟩
      have HCR : Hid (f.2.1 = false) := hcr
      have HY : Hid (Byt x2 f.2.2 (msk none)) := y
      have hS : Below w2.heap.size w2 x2 := hS.trans (hb.mono hS.size)
      clear hcr y hb
      refine hK.out _ _ hS (fun _ => ?_)
      simp only [Act.put, List.setIfInBounds_toArray, List.set_cons_zero, List.set_cons_succ]
      clear hK K
      refine take_lawH 10 (some 11) (.tuple #[fv f, .bool false]) rfl rfl (by kernel_rfl) (by kernel_rfl) (by kernel_rfl) (fun _ _ _ h => h) (Or.inl ⟨by rfl, fun w' hw' => by rfl⟩) hS ?_
      simp only [Act.put, List.setIfInBounds_toArray, List.set_cons_zero, List.set_cons_succ]
      refine take_lawH 11 (some 22) (fv f) rfl rfl (by kernel_rfl) (by kernel_rfl) (by kernel_rfl) (fun _ _ _ h => h) (Or.inl ⟨by rfl, fun w' hw' => by rfl⟩) hS ?_
      simp only [Act.put, List.setIfInBounds_toArray, List.set_cons_zero, List.set_cons_succ]
      refine take_lawH 12 (some 23) (.bool false) rfl rfl (by kernel_rfl) (by kernel_rfl) (by kernel_rfl) (fun _ _ _ h => h) (Or.inl ⟨by rfl, fun w' hw' => by rfl⟩) hS ?_
      simp only [Act.put, List.setIfInBounds_toArray, List.set_cons_zero, List.set_cons_succ]
      refine wpAnyH_ready (rs := [13]) (by kernel_rfl) (by simp) ?_
      refine AllReadyH.cons rfl (fun K hK => ?_) AllReadyH.nil
      refine step_newC _ rfl (some 9) rfl 179 rfl _ zero_flt ?_
      intro x3 v9 b9 l9
      obtain ⟨hf, ehf⟩ : ∃ x, x = x2.heap.size := ⟨_, rfl⟩
      rw [← ehf] at v9 l9 ⊢
      have HV : Hid (FlV x3 hf f0) := ⟨FlA.of v9.1, v9.2⟩
      have lhf : Hid (hf < x3.heap.size) := l9
      have ghf : Hid (w2.heap.size ≤ hf) := by rw [ehf]; exact hS.size
      have HY : Hid (Byt x3 f.2.2 (msk none)) := HY.out.below b9
      have hS : Below w2.heap.size w2 x3 := hS.trans (b9.mono hS.size)
      clear v9 b9 l9 ehf
      refine hK.out _ _ hS (fun _ => ?_)
      simp only [Act.put, List.setIfInBounds_toArray, List.set_cons_zero, List.set_cons_succ]
      clear hK K
      refine wpAnyH_ready (rs := [14]) (by kernel_rfl) (by simp) ?_
      refine AllReadyH.cons rfl (fun K hK => ?_) AllReadyH.nil
      refine step_storeF _ rfl none rfl (.tmp 9) (.tmp 22) rfl hf f rfl rfl HV.out.2 (byt_one_cell HY.out) ?_
      intro x4 e9 v9 b9
      have HY : Hid (Byt x4 f.2.2 (msk none)) := by rw [e9.out]; exact byt_flt HY.out HV.out.1 (by intro x e; cases e)
      have HV : Hid (FlV x4 hf f) := v9
      have hS : Below w2.heap.size w2 x4 := hS.trans (b9.mono ghf.out)
      clear v9 e9 b9
      refine hK.out _ _ hS (fun _ => ?_)
      simp only [Act.put]
      clear hK K
      refine take_lawH 15 (some 10) (.bool false) rfl rfl (by kernel_rfl) (by kernel_rfl) (by kernel_rfl) (fun _ _ _ h => h) (Or.inl ⟨by rfl, fun w' hw' => by rfl⟩) hS ?_
      simp only [Act.put, List.setIfInBounds_toArray, List.set_cons_zero, List.set_cons_succ]
      refine wpAnyH_done (by kernel_rfl) ?_ _
      go_wp2_with fail
      go_meet
      exact ⟨hf, f, rfl, rfl, HV.out, HCR.out, HY.out, hS, ghf.out⟩
    · refine step_newC _ rfl (some 9) rfl 179 rfl _ zero_flt ?_
      intro x5 v9 b9 l9
      obtain ⟨hf, ehf⟩ : ∃ x, x = x1.heap.size := ⟨_, rfl⟩
      rw [← ehf] at v9 l9 ⊢
      have HV : Hid (FlV x5 hf f0) := ⟨FlA.of v9.1, v9.2⟩
      have lhf : Hid (hf < x5.heap.size) := l9
      have ghf : Hid (w2.heap.size ≤ hf) := by rw [ehf]; exact hS.size
      have hS : Below w2.heap.size w2 x5 := hS.trans (b9.mono hS.size)
      clear v9 b9 l9 ehf
      refine hK.out _ _ hS (fun _ => ?_)
      simp only [Act.put, List.setIfInBounds_toArray, List.set_cons_zero, List.set_cons_succ]
      clear hK K
      refine wpAnyH_ready (rs := [9]) (by kernel_rfl) (by simp) ?_
      refine AllReadyH.cons rfl (fun K hK => ?_) AllReadyH.nil
      refine ge.step_callW _ (by rfl) (some 21) rfl 137 #[.tmp 15, .tmp 20] #[36, 3] rfl (fun q w' => by rfl) #[pv, .int .i64 (n : Int)] (by simp only [List.map_toArray, List.map_cons, List.map_nil]; rfl) (fun v w' => ∃ f : Int × Bool × Value, v = .tuple #[fv f, .bool false] ∧ f.2.1 = false ∧ Byt w' f.2.2 (msk none) ∧ Below x5.heap.size x5 w') ?_ ?_
      · refine (SA.out x5 (BB.out.trans (hS.mono BB.out.size))).mono ?_
        rintro e w' ⟨f, rfl, y⟩
        exact ⟨_, rfl, f, rfl, y⟩
      rintro _ x6 ⟨f, rfl, hcr, y, hb⟩
      have HCR : Hid (f.2.1 = false) := hcr
      have HY : Hid (Byt x6 f.2.2 (msk none)) := y
      have HV : Hid (FlV x6 hf f0) := HV.out.below hb lhf.out
      have lhf : Hid (hf < x6.heap.size) := Nat.lt_of_lt_of_le lhf.out hb.size
      have hS : Below w2.heap.size w2 x6 := hS.trans (hb.mono hS.size)
      clear hcr y hb
      refine hK.out _ _ hS (fun _ => ?_)
      simp only [Act.put, List.setIfInBounds_toArray, List.set_cons_zero, List.set_cons_succ]
      clear hK K
      refine take_lawH 10 (some 11) (.tuple #[fv f, .bool false]) rfl rfl (by kernel_rfl) (by kernel_rfl) (by kernel_rfl) (fun _ _ _ h => h) (Or.inl ⟨by rfl, fun w' hw' => by rfl⟩) hS ?_
      simp only [Act.put, List.setIfInBounds_toArray, List.set_cons_zero, List.set_cons_succ]
      refine take_lawH 11 (some 22) (fv f) rfl rfl (by kernel_rfl) (by kernel_rfl) (by kernel_rfl) (fun _ _ _ h => h) (Or.inl ⟨by rfl, fun w' hw' => by rfl⟩) hS ?_
      simp only [Act.put, List.setIfInBounds_toArray, List.set_cons_zero, List.set_cons_succ]
      refine take_lawH 12 (some 23) (.bool false) rfl rfl (by kernel_rfl) (by kernel_rfl) (by kernel_rfl) (fun _ _ _ h => h) (Or.inl ⟨by rfl, fun w' hw' => by rfl⟩) hS ?_
      simp only [Act.put, List.setIfInBounds_toArray, List.set_cons_zero, List.set_cons_succ]
      refine wpAnyH_ready (rs := [14]) (by kernel_rfl) (by simp) ?_
      refine AllReadyH.cons rfl (fun K hK => ?_) AllReadyH.nil
      refine step_storeF _ rfl none rfl (.tmp 9) (.tmp 22) rfl hf f rfl rfl HV.out.2 (byt_one_cell HY.out) ?_
      intro x7 e9 v9 b9
      have HY : Hid (Byt x7 f.2.2 (msk none)) := by rw [e9.out]; exact byt_flt HY.out HV.out.1 (by intro x e; cases e)
      have HV : Hid (FlV x7 hf f) := v9
      have hS : Below w2.heap.size w2 x7 := hS.trans (b9.mono ghf.out)
      clear v9 e9 b9
      refine hK.out _ _ hS (fun _ => ?_)
      simp only [Act.put]
      clear hK K
      refine take_lawH 15 (some 10) (.bool false) rfl rfl (by kernel_rfl) (by kernel_rfl) (by kernel_rfl) (fun _ _ _ h => h) (Or.inl ⟨by rfl, fun w' hw' => by rfl⟩) hS ?_
      simp only [Act.put, List.setIfInBounds_toArray, List.set_cons_zero, List.set_cons_succ]
      refine wpAnyH_done (by kernel_rfl) ?_ _
      go_wp2_with fail
      go_meet
      exact ⟨hf, f, rfl, rfl, HV.out, HCR.out, HY.out, hS, ghf.out⟩
  case rest =>
    obtain ⟨hf, f, rfl, rfl, V3, cr3, y3, B3, g3⟩ := hcut
    obtain ⟨fx, fc, fm⟩ := f
    have cr3' : fc = false := cr3
    subst cr3'
    have y3' : Byt wc fm (msk none) := y3
    obtain ⟨mo, mc, rfl⟩ := byt_form y3'
    have HY : Hid (Byt wc (.slice mo (msk none).length mc) (msk none)) := y3'
    have HFV : Hid (FlV wc hf (fx, false, .slice mo (msk none).length mc)) := V3
    have BB : Hid (Below w.heap.size w wc) := BB.out.trans (B3.mono BB.out.size)
    have HL : Hid (Lay (fun k => M k || decide (B ≤ k)) wc c r d q pv (.slice tq n tc) g N P S pl X) := HL.out.below B3
    have lw : Hid (B = h1 ∧ h1 < h2 ∧ h2 < hf ∧ hf < wc.heap.size) := ⟨l12.out.1, l12.out.2.1, by have a1 := l12.out; omega, V3.1.lt⟩
    have HV1 : Hid (Vr wc h1 (opc (opn ok1 ob op od 0) dv)) := HV1.out.below B3 (by have a1 := l12.out; omega)
    have HV2 : Hid (Vr wc h2 [.func (.func K1) #[] c1, .func (.func K2) #[] c2]) := HV2.out.below B3 (by have a1 := l12.out; omega)
    have HDe : Hid (Deed wc (.agg ([.func (.func K1) #[] c1, .func (.func K2) #[] c2] : List Value).toArray) (.slice (some ⟨d, off, none⟩) len cap) R) := HDe.out.below BB.out
    have SC : Hid (Calls Tryz.prog K1 (#[.slice (some ⟨d, off, none⟩) len cap] ++ c1) wc fun e w' => ∃ v, e = .returned v ∧ Byt w' v (R none) ∧ Below wc.heap.size wc w') := by
      obtain ⟨k1, d1, k2, d2, ee, _, _, s1, s2⟩ := HDe.out
      simp at ee
      obtain ⟨⟨rfl, rfl⟩, rfl, rfl⟩ := ee
      exact s1 wc (Below.refl _ _)
    have FF : Hid (Frm (fun k => M k || decide (B ≤ k)) w wc) := Frm.of_below BB.out
    have fk1 := HV2.out.cell 0 _ rfl
    have fk2 := HV2.out.cell 1 _ rfl
    have fcr := HFV.out.1.2.1
    have dd : Hid (d < wc.heap.size ∧ c < wc.heap.size) := ⟨HL.out.2.2.2.2.2.2.2.2.2.2.2.1, HL.out.2.2.2.2.2.2.2.2.2.1⟩
    have md : Hid (M d = true ∧ M c = true) := ⟨HSep.out.1.2.2.1, HSep.out.1.1⟩
    have nn : Hid (h1 ≠ d ∧ hf ≠ d ∧ h1 ≠ c ∧ hf ≠ c ∧ h1 ≠ hf) := by
      have a1 := HNE.out h1 (by have := lw.out; omega)
      have a2 := HNE.out hf (by have := lw.out; omega)
      exact ⟨fun e => a1.2.2.1 e.symm, fun e => a2.2.2.1 e.symm, fun e => a1.1 e.symm, fun e => a2.1 e.symm, by have := lw.out; omega⟩
    have mh : Hid ((M h1 || decide (B ≤ h1)) = true) := by
      show _ = true
      have : B ≤ h1 := by have := lw.out; omega
      simp [this]
    generalize R none = rs at *
    clear V3 cr3 y3 y3' B3 g3 HDe l12
    have t1 : (1 : Nat) = 1 := rfl
    have t2 : (1 : Nat) = 1 := rfl
    go_wp2_with (first
      | (have q_cp := t3; refine copy_lawN _ rfl (.tmp 33) (.tmp 37) rfl d off len cap _ rs rfl rfl Y5.out (fun j hj => HT5.out j (by omega)) ?_; intro w6 e_w6
         have e6 : w6 = w5.setCells d off (rs.map (Value.int .u8)) := by have := e_w6.out; rw [List.take_of_length_le (by rw [HR.out.1]; exact Nat.le_refl _)] at this; exact this
         have g_w6 : w5.grownBy w6 (some d) := by rw [e6]; exact keep_cells _ _ _ _
         have hA : Ar w6 d 0 .u8 (laid (xi X) off rs) := by rw [e6]; exact HL.out.2.2.2.2.1.1.layG off rs (by rw [HR.out.1]; exact HI.out.1)
         have HL : Hid (Lay (fun k => M k || decide (B ≤ k)) w6 c r d q pv (.slice tq n tc) g N P S pl (mkX (laid (xi X) off rs) (xp X) (xe X) (xs X) (xo X) (xt X))) := HL.out.img g_w6 _ hA (by rw [laid_len _ _ _ (by rw [HR.out.1]; exact HI.out.1)]; exact HL.out.2.2.2.2.1.2.1) (laid_all HL.out.2.2.2.2.1.2.2 HR.out.2 (by rw [HR.out.1]; exact HI.out.1))
         have HV1 : Hid (Vr w6 h1 (opc (opn ok1 ob op od 0) dv)) := HV1.out.kept g_w6 (by have := lw.out; omega) (by simp; exact nn.out.1)
         have fcr := (World.cell?_of_block (w := w5) (w' := w6) (a := ⟨hf, 1, none⟩) (g_w6.block hf lw.out.2.2.2 (by simp; exact nn.out.2.1))).trans fcr
         have lw : Hid (B = h1 ∧ h1 < h2 ∧ h2 < hf ∧ hf < w6.heap.size) := ⟨lw.out.1, lw.out.2.1, lw.out.2.2.1, Nat.lt_of_lt_of_le lw.out.2.2.2 g_w6.size⟩
         have FF : Hid (Frm (fun k => M k || decide (B ≤ k)) w w6) := FF.out.tr (Frm.grown g_w6 (fun k e => by injection e with e; subst e; simp [md.out.1]))
         clear e_w6 e6 g_w6 hA t3; have t4 : (1 : Nat) = 1 := rfl)
      | (have q_cl := t2; (with_reducible refine SC.out.mono ?_); rintro e w5 ⟨v5, rfl, y5, B5⟩; have Y5 : Hid (Byt w5 v5 rs) := y5
         have HL : Hid (Lay (fun k => M k || decide (B ≤ k)) w5 c r d q pv (.slice tq n tc) g N P S pl X) := HL.out.below B5
         have HT5 : Hid (w5.there d off len) := thereG HL.out.2.2.2.2.1.1 off len HI.out.1
         have HV1 : Hid (Vr w5 h1 (opc (opn ok1 ob op od 0) dv)) := HV1.out.below B5 (by have := lw.out; omega)
         have fcr := (B5.cell (p := ⟨hf, 1, none⟩) lw.out.2.2.2).trans fcr
         have lw : Hid (B = h1 ∧ h1 < h2 ∧ h2 < hf ∧ hf < w5.heap.size) := ⟨lw.out.1, lw.out.2.1, lw.out.2.2.1, Nat.lt_of_lt_of_le lw.out.2.2.2 B5.size⟩
         have FF : Hid (Frm (fun k => M k || decide (B ≤ k)) w w5) := FF.out.tr (Frm.of_below B5)
         clear y5 B5 t2; have t3 : (1 : Nat) = 1 := rfl))
    have HL : Hid (Lay (fun k => M k || decide (B ≤ k)) w6.drew c r d q pv (.slice tq n tc) g N P S pl (mkX (laid (xi X) off rs) (xp X) (xe X) (xs X) (xo X) (xt X))) := HL.out.below (Below.refl _ _).drew
    have FF : Hid (Frm (fun k => M k || decide (B ≤ k)) w w6.drew) := FF.out
    refine wp_region_held_drew (S := fun w' => Vr w' h1 (opc (opn ok1 ob op od 0) dv)) (by kernel_rfl) (HV1.out.heap rfl) (fun hS => ?_)
    obtain ⟨z1, hx0⟩ : ∃ x, x = w6.drew := ⟨_, rfl⟩
    rw [← hx0] at hS HL FF ⊢
    clear hx0
    refine take_lawH 0 (some 45) (.pointer (some ⟨c, 0, none⟩)) rfl rfl (by kernel_rfl) (by kernel_rfl) (by kernel_rfl) (fun _ _ _ h => h) (Or.inl ⟨by rfl, fun w' hw' => by rfl⟩) hS ?_
    simp only [Act.put, List.setIfInBounds_toArray, List.set_cons_zero, List.set_cons_succ]
    refine take_lawH 1 (some 46) (.pointer (some ⟨c, 0, none⟩)) rfl rfl (by kernel_rfl) (by kernel_rfl) (by kernel_rfl) (fun _ _ _ h => h) (Or.inl ⟨by rfl, fun w' hw' => by rfl⟩) hS ?_
    simp only [Act.put, List.setIfInBounds_toArray, List.set_cons_zero, List.set_cons_succ]
    refine take_lawH 2 (some 47) (.pointer (some ⟨c, 0, none⟩)) rfl rfl (by kernel_rfl) (by kernel_rfl) (by kernel_rfl) (fun _ _ _ h => h) (Or.inl ⟨by rfl, fun w' hw' => by go_simp⟩) hS ?_
    simp only [Act.put, List.setIfInBounds_toArray, List.set_cons_zero, List.set_cons_succ]
    refine take_lawH 3 (some 48) (.pointer (some ⟨c, 10, none⟩)) rfl rfl (by kernel_rfl) (by kernel_rfl) (by kernel_rfl) (fun _ _ _ h => h) (Or.inl ⟨by rfl, fun w' hw' => by go_simp⟩) hS ?_
    simp only [Act.put, List.setIfInBounds_toArray, List.set_cons_zero, List.set_cons_succ]
    refine take_lawH 5 (some 50) (.agg (opc (opn ok1 ob op od 0) dv).toArray) rfl rfl (by kernel_rfl) (by kernel_rfl) (by kernel_rfl) (fun _ _ _ h => h) (Or.inl ⟨by rfl, fun w' hw' => by exact exec_loadN 197 (.tmp 5) rfl _ rfl _ _ (load_cells rowy_op hw'.1)⟩) hS ?_
    simp only [Act.put, List.setIfInBounds_toArray, List.set_cons_zero, List.set_cons_succ]
    refine wpAnyH_ready (rs := [4, 6]) (by kernel_rfl) (by simp) ?_
    refine AllReadyH.cons rfl (fun K hK => ?_) (AllReadyH.cons rfl (fun K hK => ?_) AllReadyH.nil)
    · refine step_load _ rfl (some 49) rfl (.tmp 48) 105 rfl _ (.slice tq n tc) rfl (load_one one_oprs HL.out.cells.2.2.2.2) ?_
      refine hK.out _ _ hS (fun _ => ?_)
      simp only [Act.put, List.setIfInBounds_toArray, List.set_cons_zero, List.set_cons_succ]
      clear hK K
      refine wpAnyH_ready (rs := [6]) (by kernel_rfl) (by simp) ?_
      refine AllReadyH.cons rfl (fun K hK => ?_) AllReadyH.nil
      refine step_one _ rfl (some 51) rfl (.tmp 50) 105 197 rfl (opc (opn ok1 ob op od 0) dv) rfl (fun w => build_op _ _ _ _ _ w) ?_
      intro z2 rw9 b9
      obtain ⟨h9, e9⟩ : ∃ x, x = z1.heap.size := ⟨_, rfl⟩
      rw [← e9] at rw9 ⊢
      have RW : Hid (Rws z2 (.slice (some ⟨h9, 0, none⟩) 1 1) 5 [opc (opn ok1 ob op od 0) dv]) := rw9
      have HL : Hid (Lay (fun k => M k || decide (B ≤ k)) z2 c r d q pv (.slice tq n tc) g N P S pl (mkX (laid (xi X) off rs) (xp X) (xe X) (xs X) (xo X) (xt X))) := HL.out.below b9
      have hS : Vr z2 h1 (opc (opn ok1 ob op od 0) dv) := hS.below b9 (range_lt hS.1 (by show 0 < 5; omega))
      have FF : Hid (Frm (fun k => M k || decide (B ≤ k)) w z2) := FF.out.tr (Frm.of_below b9)
      clear rw9 b9 e9
      refine hK.out _ _ hS (fun _ => ?_)
      simp only [Act.put, List.setIfInBounds_toArray, List.set_cons_zero, List.set_cons_succ]
      clear hK K
      refine wpAnyH_ready (rs := [7]) (by kernel_rfl) (by simp) ?_
      refine AllReadyH.cons rfl (fun K hK => ?_) AllReadyH.nil
      obtain ⟨dvs, tO, tB, tM⟩ := HL.out.2.2.2.2.2.2.2.1
      have tO' : OwR 0 z2 (.slice tq n tc) 197 5 (opcs (xt X) dvs) := tO
      have hln : (opcs (xt X) dvs).length = n := by rw [opcs_len]; exact HN.out
      refine step_appT _ rfl (some 52) rfl (.tmp 49) (.tmp 51) 105 197 rfl Tryz.underlying105 _ 5 56 info_op rfl (by decide) _ _ (opcs (xt X) dvs) [opc (opn ok1 ob op od 0) dv] rfl rfl tO' RW.out (opc_one _ _ hdo) (by rw [hln]; simp; omega) (by rw [hln]; simp; omega) (by simp) ?_
      intro tv9 z3 o9 g9 f9
      have HG : Hid (z2.grownBy z3 (Value.slice tq n tc).ownBlock ∧ (tv9.ownBlock = (Value.slice tq n tc).ownBlock ∨ ∃ k, tv9.ownBlock = some k ∧ z2.heap.size ≤ k)) := ⟨g9, f9⟩
      have HO9 : Hid (OwR 0 z3 tv9 197 5 (opcs (xt X) dvs ++ [opc (opn ok1 ob op od 0) dv]) ∧ ∀ i, i < (xt X).length → Byt (hid (fun k => M k || decide (B ≤ k)) z2) (dvs i) (gO (xt X) i).2.2.2.1) := ⟨o9, tB⟩
      have a5 := (HNE.out h1 (by have := lw.out; omega)).2.2.2.2
      have hne1 : some h1 ≠ (Value.slice tq n tc).ownBlock := fun e => a5 h1 e.symm rfl
      have hne2 : some c ≠ (Value.slice tq n tc).ownBlock := fun e => (HL.out.2.2.1 c e.symm).1 rfl
      have HC9 : Hid ((z3.cell? ⟨c, 10, none⟩).isSome = true ∧ z3.frozen? ⟨c, 10, none⟩ = false) := by
        have b9 := g9.block c HL.out.2.2.2.2.2.2.2.2.2.1 hne2
        show _ ∧ _
        rw [World.cell?_of_block (w := z2) (w' := z3) (a := ⟨c, 10, none⟩) b9, World.frozen?_of_block (w := z2) (w' := z3) (a := ⟨c, 10, none⟩) b9]
        exact HL.out.free 10 (by decide)
      have hS : Vr z3 h1 (opc (opn ok1 ob op od 0) dv) := hS.kept g9 (range_lt hS.1 (by show 0 < 5; omega)) hne1
      clear tO tB tM tO' hln o9 g9 f9 a5 hne1 hne2
      refine hK.out _ _ hS (fun _ => ?_)
      simp only [Act.put, List.setIfInBounds_toArray, List.set_cons_zero, List.set_cons_succ]
      clear hK K
      refine take_lawH 8 (some 53) (.pointer (some ⟨c, 0, none⟩)) rfl rfl (by kernel_rfl) (by kernel_rfl) (by kernel_rfl) (fun _ _ _ h => h) (Or.inl ⟨by rfl, fun w' hw' => by go_simp⟩) hS ?_
      simp only [Act.put, List.setIfInBounds_toArray, List.set_cons_zero, List.set_cons_succ]
      refine take_lawH 9 (some 54) (.pointer (some ⟨c, 10, none⟩)) rfl rfl (by kernel_rfl) (by kernel_rfl) (by kernel_rfl) (fun _ _ _ h => h) (Or.inl ⟨by rfl, fun w' hw' => by go_simp⟩) hS ?_
      simp only [Act.put, List.setIfInBounds_toArray, List.set_cons_zero, List.set_cons_succ]
      refine wpAnyH_ready (rs := [10]) (by kernel_rfl) (by simp) ?_
      refine AllReadyH.cons rfl (fun K hK => ?_) AllReadyH.nil
      refine step_store1 _ rfl none rfl (.tmp 54) (.tmp 52) 105 rfl c 10 tv9 rfl rfl HC9.out.1 HC9.out.2 one_oprs.2 (own_one HO9.out.1) (own_cells HO9.out.1) ?_
      intro z4 e9
      have hS : Vr z4 h1 (opc (opn ok1 ob op od 0) dv) := by rw [e9.out]; exact hS.other _ nn.out.2.2.1
      have HT := HL.out.trc (opn ok1 ob op od 0) dv tv9 HG.out.1 HG.out.2 (HD.out.below FF.out.hid0) dvs HO9.out.2 HO9.out.1
      rw [← e9.out] at HT
      have HT' : Hid (_ ∧ _ ∧ _ ∧ _) := HT
      clear HT e9
      refine hK.out _ _ hS (fun _ => ?_)
      simp only [Act.put]
      clear hK K
      refine wpAnyH_done (by kernel_rfl) ?_ _
      have f4 := hS.cell 4 _ rfl
      go_wp2
      go_ret
      have PE := perf_end HB.out HMlt.out FF.out HT'.out.2.1 HT'.out.1 HT'.out.2.2.1 HT'.out.2.2.2 HSep.out
      exact ⟨_, tv9, rfl, by have := PE.1; have e := HON.out; exact lay_on this e, PE.2⟩
    · refine step_one _ rfl (some 51) rfl (.tmp 50) 105 197 rfl (opc (opn ok1 ob op od 0) dv) rfl (fun w => build_op _ _ _ _ _ w) ?_
      intro z5 rw9 b9
      obtain ⟨h9, e9⟩ : ∃ x, x = z1.heap.size := ⟨_, rfl⟩
      rw [← e9] at rw9 ⊢
      have RW : Hid (Rws z5 (.slice (some ⟨h9, 0, none⟩) 1 1) 5 [opc (opn ok1 ob op od 0) dv]) := rw9
      have HL : Hid (Lay (fun k => M k || decide (B ≤ k)) z5 c r d q pv (.slice tq n tc) g N P S pl (mkX (laid (xi X) off rs) (xp X) (xe X) (xs X) (xo X) (xt X))) := HL.out.below b9
      have hS : Vr z5 h1 (opc (opn ok1 ob op od 0) dv) := hS.below b9 (range_lt hS.1 (by show 0 < 5; omega))
      have FF : Hid (Frm (fun k => M k || decide (B ≤ k)) w z5) := FF.out.tr (Frm.of_below b9)
      clear rw9 b9 e9
      refine hK.out _ _ hS (fun _ => ?_)
      simp only [Act.put, List.setIfInBounds_toArray, List.set_cons_zero, List.set_cons_succ]
      clear hK K
      refine wpAnyH_ready (rs := [4]) (by kernel_rfl) (by simp) ?_
      refine AllReadyH.cons rfl (fun K hK => ?_) AllReadyH.nil
      refine step_load _ rfl (some 49) rfl (.tmp 48) 105 rfl _ (.slice tq n tc) rfl (load_one one_oprs HL.out.cells.2.2.2.2) ?_
      refine hK.out _ _ hS (fun _ => ?_)
      simp only [Act.put, List.setIfInBounds_toArray, List.set_cons_zero, List.set_cons_succ]
      clear hK K
      refine wpAnyH_ready (rs := [7]) (by kernel_rfl) (by simp) ?_
      refine AllReadyH.cons rfl (fun K hK => ?_) AllReadyH.nil
      obtain ⟨dvs, tO, tB, tM⟩ := HL.out.2.2.2.2.2.2.2.1
      have tO' : OwR 0 z5 (.slice tq n tc) 197 5 (opcs (xt X) dvs) := tO
      have hln : (opcs (xt X) dvs).length = n := by rw [opcs_len]; exact HN.out
      refine step_appT _ rfl (some 52) rfl (.tmp 49) (.tmp 51) 105 197 rfl Tryz.underlying105 _ 5 56 info_op rfl (by decide) _ _ (opcs (xt X) dvs) [opc (opn ok1 ob op od 0) dv] rfl rfl tO' RW.out (opc_one _ _ hdo) (by rw [hln]; simp; omega) (by rw [hln]; simp; omega) (by simp) ?_
      intro tv9 z6 o9 g9 f9
      have HG : Hid (z5.grownBy z6 (Value.slice tq n tc).ownBlock ∧ (tv9.ownBlock = (Value.slice tq n tc).ownBlock ∨ ∃ k, tv9.ownBlock = some k ∧ z5.heap.size ≤ k)) := ⟨g9, f9⟩
      have HO9 : Hid (OwR 0 z6 tv9 197 5 (opcs (xt X) dvs ++ [opc (opn ok1 ob op od 0) dv]) ∧ ∀ i, i < (xt X).length → Byt (hid (fun k => M k || decide (B ≤ k)) z5) (dvs i) (gO (xt X) i).2.2.2.1) := ⟨o9, tB⟩
      have a5 := (HNE.out h1 (by have := lw.out; omega)).2.2.2.2
      have hne1 : some h1 ≠ (Value.slice tq n tc).ownBlock := fun e => a5 h1 e.symm rfl
      have hne2 : some c ≠ (Value.slice tq n tc).ownBlock := fun e => (HL.out.2.2.1 c e.symm).1 rfl
      have HC9 : Hid ((z6.cell? ⟨c, 10, none⟩).isSome = true ∧ z6.frozen? ⟨c, 10, none⟩ = false) := by
        have b9 := g9.block c HL.out.2.2.2.2.2.2.2.2.2.1 hne2
        show _ ∧ _
        rw [World.cell?_of_block (w := z5) (w' := z6) (a := ⟨c, 10, none⟩) b9, World.frozen?_of_block (w := z5) (w' := z6) (a := ⟨c, 10, none⟩) b9]
        exact HL.out.free 10 (by decide)
      have hS : Vr z6 h1 (opc (opn ok1 ob op od 0) dv) := hS.kept g9 (range_lt hS.1 (by show 0 < 5; omega)) hne1
      clear tO tB tM tO' hln o9 g9 f9 a5 hne1 hne2
      refine hK.out _ _ hS (fun _ => ?_)
      simp only [Act.put, List.setIfInBounds_toArray, List.set_cons_zero, List.set_cons_succ]
      clear hK K
      refine take_lawH 8 (some 53) (.pointer (some ⟨c, 0, none⟩)) rfl rfl (by kernel_rfl) (by kernel_rfl) (by kernel_rfl) (fun _ _ _ h => h) (Or.inl ⟨by rfl, fun w' hw' => by go_simp⟩) hS ?_
      simp only [Act.put, List.setIfInBounds_toArray, List.set_cons_zero, List.set_cons_succ]
      refine take_lawH 9 (some 54) (.pointer (some ⟨c, 10, none⟩)) rfl rfl (by kernel_rfl) (by kernel_rfl) (by kernel_rfl) (fun _ _ _ h => h) (Or.inl ⟨by rfl, fun w' hw' => by go_simp⟩) hS ?_
      simp only [Act.put, List.setIfInBounds_toArray, List.set_cons_zero, List.set_cons_succ]
      refine wpAnyH_ready (rs := [10]) (by kernel_rfl) (by simp) ?_
      refine AllReadyH.cons rfl (fun K hK => ?_) AllReadyH.nil
      refine step_store1 _ rfl none rfl (.tmp 54) (.tmp 52) 105 rfl c 10 tv9 rfl rfl HC9.out.1 HC9.out.2 one_oprs.2 (own_one HO9.out.1) (own_cells HO9.out.1) ?_
      intro z7 e9
      have hS : Vr z7 h1 (opc (opn ok1 ob op od 0) dv) := by rw [e9.out]; exact hS.other _ nn.out.2.2.1
      have HT := HL.out.trc (opn ok1 ob op od 0) dv tv9 HG.out.1 HG.out.2 (HD.out.below FF.out.hid0) dvs HO9.out.2 HO9.out.1
      rw [← e9.out] at HT
      have HT' : Hid (_ ∧ _ ∧ _ ∧ _) := HT
      clear HT e9
      refine hK.out _ _ hS (fun _ => ?_)
      simp only [Act.put]
      clear hK K
      refine wpAnyH_done (by kernel_rfl) ?_ _
      have f4 := hS.cell 4 _ rfl
      go_wp2
      go_ret
      have PE := perf_end HB.out HMlt.out FF.out HT'.out.2.1 HT'.out.1 HT'.out.2.2.1 HT'.out.2.2.2 HSep.out
      exact ⟨_, tv9, rfl, by have := PE.1; have e := HON.out; exact lay_on this e, PE.2⟩
set_option maxHeartbeats 8000000 in
theorem perform_fail (h : Lay M w c r d q pv tv g N P S pl X) (hM : Mlt M w) (hon : xo X = true) (o : Opn) (ho : o.2.2.2.2 = 0) (dv : Value) (off len cap : Nat) (deed : Value) (R : Option (Bool × List Int) → List Int) (mm : List Int) (hpl : pl (xt X).length = (some (false, mm)))
    (hD : Deed w deed (.slice (some ⟨d, off, none⟩) len cap) R) (hd : Byt (hid M w) dv o.2.2.2.1) (hf : off + len ≤ N * (P * S)) (hR : (R (some (false, mm))).length = len ∧ AllB (R (some (false, mm)))) (htr : (xt X).length ≤ 1000000) :
    Calls Tryz.prog 98 #[.pointer (some ⟨c, 0, none⟩), .agg (opc o dv).toArray, .slice (some ⟨d, off, none⟩) len cap, deed] w (Perf M w c r d q pv g N P S pl X off (R (some (false, mm))) o (some (false, mm))) := by
  obtain ⟨B, hB⟩ : ∃ B, B = w.heap.size := ⟨_, rfl⟩
  have hmore : ∀ k, k < w.heap.size → (M k || decide (B ≤ k)) = M k := fun k hk => by
    have : ¬ (B ≤ k) := by omega
    simp [this]
  obtain ⟨tq, tc, htv⟩ : ∃ tq tc, tv = .slice tq (xt X).length tc := by
    obtain ⟨dvs, tO, -, -⟩ := h.2.2.2.2.2.2.2.1
    obtain ⟨tq, tc, e⟩ := tO.rws.form
    rw [opcs_len] at e
    exact ⟨tq, tc, e⟩
  subst htv
  have HL : Hid (Lay (fun k => M k || decide (B ≤ k)) w c r d q pv (.slice tq (xt X).length tc) g N P S pl X) := h.more hmore
  have HNE : Hid (∀ x, B ≤ x → c ≠ x ∧ r ≠ x ∧ d ≠ x ∧ (∀ b, b < N → q b ≠ x) ∧ ∀ k, (Value.slice tq (xt X).length tc).ownBlock = some k → k ≠ x) := fun x hx => by
    obtain ⟨dvs, tO, -, -⟩ := h.2.2.2.2.2.2.2.1
    obtain ⟨b1, b2, b3, b4⟩ := h.2.2.2.2.2.2.2.2.2
    exact ⟨by omega, by omega, by omega, fun b hb => by have := b4 b hb; omega, fun k hk => by have := (tO.1.lt k hk).2; omega⟩
  have HSep : Hid (Sep M c r d q N) := h.2.1
  have HMlt : Hid (Mlt M w) := hM
  have HDe : Hid (Deed w deed (.slice (some ⟨d, off, none⟩) len cap) R) := hD
  obtain ⟨K1, c1, K2, c2, rfl, cf1, cf2, -, -⟩ := hD
  have HD : Hid (Byt (hid (fun k => M k || decide (B ≤ k)) w) dv o.2.2.2.1) := hd.below ((Frm.refl M w).hid hmore)
  have hdo : dv.oneCell' = true := byt_one_cell hd
  have SA : Hid (∀ w0, Below w.heap.size w w0 → Calls Tryz.prog 137 #[pv, .int .i64 ((xt X).length : Int)] w0 fun e w' => ∃ f : Int × Bool × Value, e = .returned (.tuple #[fv f, .bool true]) ∧ f.2.1 = false ∧ Byt w' f.2.2 (msk (some (false, mm))) ∧ Below w0.heap.size w0 w') := fun w0 hw => by
    have := at_pln (hid_pla (h.below hw).2.2.2.2.2.2.2.2.1) (xt X).length
    rw [hpl] at this
    exact this
  have HON : Hid (xo X = true) := hon
  have HR : Hid ((R (some (false, mm))).length = len ∧ AllB (R (some (false, mm)))) := hR
  have HI : Hid (off + len ≤ (xi X).length ∧ off + len ≤ N * (P * S)) := ⟨by rw [h.2.2.2.2.1.2.1]; exact hf, hf⟩
  obtain ⟨ok1, ob, op, od, oe⟩ := o
  have ho' : oe = 0 := ho
  subst ho'
  obtain ⟨n, hn⟩ : ∃ n, (xt X).length = n := ⟨_, rfl⟩
  rw [hn] at SA HL HNE htr hpl
  have HN : Hid ((xt X).length = n) := hn
  have HB : Hid (B = w.heap.size) := hB
  clear h hd ho hR hon hf hn hpl hmore hM hB
  have t0 : (0 : Nat) = 0 := rfl
  go_enter Tryz.func98, Tryz.ntmps98
  go_wp2_with (first
    | (have q1 := t1; refine box_lawC _ [.func (.func K1) #[] c1, .func (.func K2) #[] c2] rfl ?_; intro w2 V2 B2 l2; have HV2 : Hid (Vr w2 w1.heap.size [.func (.func K1) #[] c1, .func (.func K2) #[] c2]) := V2; have HV1 : Hid (Vr w2 w.heap.size (opc (opn ok1 ob op od 0) dv)) := HV1.out.below B2 l1; have BB : Hid (Below w.heap.size w w2) := BB.out.trans (B2.mono (Nat.le_of_lt l1)); clear V2 B2 t1)
    | (have q0 := t0; refine box_lawC _ (opc (opn ok1 ob op od 0) dv) rfl ?_; intro w1 V1 B1 l1; have HV1 : Hid (Vr w1 w.heap.size (opc (opn ok1 ob op od 0) dv)) := V1; have BB : Hid (Below w.heap.size w w1) := B1; clear V1 B1 t0; have t1 : (1 : Nat) = 1 := rfl))
  have HL : Hid (Lay (fun k => M k || decide (B ≤ k)) w2 c r d q pv (.slice tq n tc) g N P S pl X) := HL.out.below BB.out
  obtain ⟨h1, e1⟩ : ∃ x, x = w.heap.size := ⟨_, rfl⟩
  obtain ⟨h2, e2⟩ : ∃ x, x = w1.heap.size := ⟨_, rfl⟩
  rw [← e1] at HV1
  rw [← e2] at HV2
  have l12 : Hid (B = h1 ∧ h1 < h2 ∧ h2 < w2.heap.size) := ⟨by rw [e1]; exact HB.out, by omega, by omega⟩
  rw [← e1, ← e2]
  clear e1 e2 l1 l2
  go_cut [9, 10] (fun r9 r10 wc => ∃ (hf : Nat) (f : Int × Bool × Value), r9 = .pointer (some ⟨hf, 0, none⟩) ∧ r10 = .bool true ∧ FlV wc hf f ∧ f.2.1 = false ∧ Byt wc f.2.2 (msk (some (false, mm))) ∧ Below w2.heap.size w2 wc ∧ w2.heap.size ≤ hf)
  case first =>
    refine wp_region_held_drew (S := fun w' => Below w2.heap.size w2 w') (by kernel_rfl) (Below.refl _ _).drew (fun hS => ?_)
    obtain ⟨x1, hx0⟩ : ∃ x, x = w2.drew := ⟨_, rfl⟩
    rw [← hx0] at hS  ⊢
    clear hx0
    refine take_lawH 0 (some 12) (.pointer (some ⟨c, 0, none⟩)) rfl rfl (by kernel_rfl) (by kernel_rfl) (by kernel_rfl) (fun _ _ _ h => h) (Or.inl ⟨by rfl, fun w' hw' => by rfl⟩) hS ?_
    simp only [Act.put, List.setIfInBounds_toArray, List.set_cons_zero, List.set_cons_succ]
    refine take_lawH 1 (some 13) (.pointer (some ⟨c, 0, none⟩)) rfl rfl (by kernel_rfl) (by kernel_rfl) (by kernel_rfl) (fun _ _ _ h => h) (Or.inl ⟨by rfl, fun w' hw' => by go_simp⟩) hS ?_
    simp only [Act.put, List.setIfInBounds_toArray, List.set_cons_zero, List.set_cons_succ]
    refine take_lawH 2 (some 14) (.pointer (some ⟨c, 6, none⟩)) rfl rfl (by kernel_rfl) (by kernel_rfl) (by kernel_rfl) (fun _ _ _ h => h) (Or.inl ⟨by rfl, fun w' hw' => by go_simp⟩) hS ?_
    simp only [Act.put, List.setIfInBounds_toArray, List.set_cons_zero, List.set_cons_succ]
    refine take_lawH 3 (some 15) (pv) rfl rfl (by kernel_rfl) (by kernel_rfl) (by kernel_rfl) (fun _ _ _ h => h) (Or.inl ⟨by rfl, fun w' hw' => by exact exec_loadN 36 (.tmp 14) rfl _ rfl _ _ (load_one one_faults (HL.out.below hw').cells.1)⟩) hS ?_
    simp only [Act.put, List.setIfInBounds_toArray, List.set_cons_zero, List.set_cons_succ]
    refine take_lawH 4 (some 16) (.pointer (some ⟨c, 0, none⟩)) rfl rfl (by kernel_rfl) (by kernel_rfl) (by kernel_rfl) (fun _ _ _ h => h) (Or.inl ⟨by rfl, fun w' hw' => by rfl⟩) hS ?_
    simp only [Act.put, List.setIfInBounds_toArray, List.set_cons_zero, List.set_cons_succ]
    refine take_lawH 5 (some 17) (.pointer (some ⟨c, 0, none⟩)) rfl rfl (by kernel_rfl) (by kernel_rfl) (by kernel_rfl) (fun _ _ _ h => h) (Or.inl ⟨by rfl, fun w' hw' => by go_simp⟩) hS ?_
    simp only [Act.put, List.setIfInBounds_toArray, List.set_cons_zero, List.set_cons_succ]
    refine take_lawH 6 (some 18) (.pointer (some ⟨c, 10, none⟩)) rfl rfl (by kernel_rfl) (by kernel_rfl) (by kernel_rfl) (fun _ _ _ h => h) (Or.inl ⟨by rfl, fun w' hw' => by go_simp⟩) hS ?_
    simp only [Act.put, List.setIfInBounds_toArray, List.set_cons_zero, List.set_cons_succ]
    refine take_lawH 7 (some 19) (.slice tq n tc) rfl rfl (by kernel_rfl) (by kernel_rfl) (by kernel_rfl) (fun _ _ _ h => h) (Or.inl ⟨by rfl, fun w' hw' => by exact exec_loadN 105 (.tmp 18) rfl _ rfl _ _ (load_one one_oprs (HL.out.below hw').cells.2.2.2.2)⟩) hS ?_
    simp only [Act.put, List.setIfInBounds_toArray, List.set_cons_zero, List.set_cons_succ]
    refine take_lawH 8 (some 20) (.int .i64 (n : Int)) rfl rfl (by kernel_rfl) (by kernel_rfl) (by kernel_rfl) (fun _ _ _ h => h) (Or.inl ⟨by rfl, fun w' hw' => by go_simp⟩) hS ?_
    simp only [Act.put, List.setIfInBounds_toArray, List.set_cons_zero, List.set_cons_succ]
    refine wpAnyH_ready (rs := [9, 13]) (by kernel_rfl) (by simp) ?_
    refine AllReadyH.cons rfl (fun K hK => ?_) (AllReadyH.cons rfl (fun K hK => ?_) AllReadyH.nil)
    · refine ge.step_callW _ (by rfl) (some 21) rfl 137 #[.tmp 15, .tmp 20] #[36, 3] rfl (fun q w' => by rfl) #[pv, .int .i64 (n : Int)] (by simp only [List.map_toArray, List.map_cons, List.map_nil]; rfl) (fun v w' => ∃ f : Int × Bool × Value, v = .tuple #[fv f, .bool true] ∧ f.2.1 = false ∧ Byt w' f.2.2 (msk (some (false, mm))) ∧ Below x1.heap.size x1 w') ?_ ?_
      · refine (SA.out x1 (BB.out.trans (hS.mono BB.out.size))).mono ?_
        rintro e w' ⟨f, rfl, y⟩
        exact ⟨_, rfl, f, rfl, y⟩
      rintro _ x2 ⟨f, rfl, hcr, y, hb⟩
      have HCR : Hid (f.2.1 = false) := hcr
      have HY : Hid (Byt x2 f.2.2 (msk (some (false, mm)))) := y
      have hS : Below w2.heap.size w2 x2 := hS.trans (hb.mono hS.size)
      clear hcr y hb
      refine hK.out _ _ hS (fun _ => ?_)
      simp only [Act.put, List.setIfInBounds_toArray, List.set_cons_zero, List.set_cons_succ]
      clear hK K
      refine take_lawH 10 (some 11) (.tuple #[fv f, .bool true]) rfl rfl (by kernel_rfl) (by kernel_rfl) (by kernel_rfl) (fun _ _ _ h => h) (Or.inl ⟨by rfl, fun w' hw' => by rfl⟩) hS ?_
      simp only [Act.put, List.setIfInBounds_toArray, List.set_cons_zero, List.set_cons_succ]
      refine take_lawH 11 (some 22) (fv f) rfl rfl (by kernel_rfl) (by kernel_rfl) (by kernel_rfl) (fun _ _ _ h => h) (Or.inl ⟨by rfl, fun w' hw' => by rfl⟩) hS ?_
      simp only [Act.put, List.setIfInBounds_toArray, List.set_cons_zero, List.set_cons_succ]
      refine take_lawH 12 (some 23) (.bool true) rfl rfl (by kernel_rfl) (by kernel_rfl) (by kernel_rfl) (fun _ _ _ h => h) (Or.inl ⟨by rfl, fun w' hw' => by rfl⟩) hS ?_
      simp only [Act.put, List.setIfInBounds_toArray, List.set_cons_zero, List.set_cons_succ]
      refine wpAnyH_ready (rs := [13]) (by kernel_rfl) (by simp) ?_
      refine AllReadyH.cons rfl (fun K hK => ?_) AllReadyH.nil
      refine step_newC _ rfl (some 9) rfl 179 rfl _ zero_flt ?_
      intro x3 v9 b9 l9
      obtain ⟨hf, ehf⟩ : ∃ x, x = x2.heap.size := ⟨_, rfl⟩
      rw [← ehf] at v9 l9 ⊢
      have HV : Hid (FlV x3 hf f0) := ⟨FlA.of v9.1, v9.2⟩
      have lhf : Hid (hf < x3.heap.size) := l9
      have ghf : Hid (w2.heap.size ≤ hf) := by rw [ehf]; exact hS.size
      have HY : Hid (Byt x3 f.2.2 (msk (some (false, mm)))) := HY.out.below b9
      have hS : Below w2.heap.size w2 x3 := hS.trans (b9.mono hS.size)
      clear v9 b9 l9 ehf
      refine hK.out _ _ hS (fun _ => ?_)
      simp only [Act.put, List.setIfInBounds_toArray, List.set_cons_zero, List.set_cons_succ]
      clear hK K
      refine wpAnyH_ready (rs := [14]) (by kernel_rfl) (by simp) ?_
      refine AllReadyH.cons rfl (fun K hK => ?_) AllReadyH.nil
      refine step_storeF _ rfl none rfl (.tmp 9) (.tmp 22) rfl hf f rfl rfl HV.out.2 (byt_one_cell HY.out) ?_
      intro x4 e9 v9 b9
      have HY : Hid (Byt x4 f.2.2 (msk (some (false, mm)))) := by rw [e9.out]; exact byt_flt HY.out HV.out.1 (by intro x e; cases e)
      have HV : Hid (FlV x4 hf f) := v9
      have hS : Below w2.heap.size w2 x4 := hS.trans (b9.mono ghf.out)
      clear v9 e9 b9
      refine hK.out _ _ hS (fun _ => ?_)
      simp only [Act.put]
      clear hK K
      refine take_lawH 15 (some 10) (.bool true) rfl rfl (by kernel_rfl) (by kernel_rfl) (by kernel_rfl) (fun _ _ _ h => h) (Or.inl ⟨by rfl, fun w' hw' => by rfl⟩) hS ?_
      simp only [Act.put, List.setIfInBounds_toArray, List.set_cons_zero, List.set_cons_succ]
      refine wpAnyH_done (by kernel_rfl) ?_ _
      go_wp2_with fail
      go_meet
      exact ⟨hf, f, rfl, rfl, HV.out, HCR.out, HY.out, hS, ghf.out⟩
    · refine step_newC _ rfl (some 9) rfl 179 rfl _ zero_flt ?_
      intro x5 v9 b9 l9
      obtain ⟨hf, ehf⟩ : ∃ x, x = x1.heap.size := ⟨_, rfl⟩
      rw [← ehf] at v9 l9 ⊢
      have HV : Hid (FlV x5 hf f0) := ⟨FlA.of v9.1, v9.2⟩
      have lhf : Hid (hf < x5.heap.size) := l9
      have ghf : Hid (w2.heap.size ≤ hf) := by rw [ehf]; exact hS.size
      have hS : Below w2.heap.size w2 x5 := hS.trans (b9.mono hS.size)
      clear v9 b9 l9 ehf
      refine hK.out _ _ hS (fun _ => ?_)
      simp only [Act.put, List.setIfInBounds_toArray, List.set_cons_zero, List.set_cons_succ]
      clear hK K
      refine wpAnyH_ready (rs := [9]) (by kernel_rfl) (by simp) ?_
      refine AllReadyH.cons rfl (fun K hK => ?_) AllReadyH.nil
      refine ge.step_callW _ (by rfl) (some 21) rfl 137 #[.tmp 15, .tmp 20] #[36, 3] rfl (fun q w' => by rfl) #[pv, .int .i64 (n : Int)] (by simp only [List.map_toArray, List.map_cons, List.map_nil]; rfl) (fun v w' => ∃ f : Int × Bool × Value, v = .tuple #[fv f, .bool true] ∧ f.2.1 = false ∧ Byt w' f.2.2 (msk (some (false, mm))) ∧ Below x5.heap.size x5 w') ?_ ?_
      · refine (SA.out x5 (BB.out.trans (hS.mono BB.out.size))).mono ?_
        rintro e w' ⟨f, rfl, y⟩
        exact ⟨_, rfl, f, rfl, y⟩
      rintro _ x6 ⟨f, rfl, hcr, y, hb⟩
      have HCR : Hid (f.2.1 = false) := hcr
      have HY : Hid (Byt x6 f.2.2 (msk (some (false, mm)))) := y
      have HV : Hid (FlV x6 hf f0) := HV.out.below hb lhf.out
      have lhf : Hid (hf < x6.heap.size) := Nat.lt_of_lt_of_le lhf.out hb.size
      have hS : Below w2.heap.size w2 x6 := hS.trans (hb.mono hS.size)
      clear hcr y hb
      refine hK.out _ _ hS (fun _ => ?_)
      simp only [Act.put, List.setIfInBounds_toArray, List.set_cons_zero, List.set_cons_succ]
      clear hK K
      refine take_lawH 10 (some 11) (.tuple #[fv f, .bool true]) rfl rfl (by kernel_rfl) (by kernel_rfl) (by kernel_rfl) (fun _ _ _ h => h) (Or.inl ⟨by rfl, fun w' hw' => by rfl⟩) hS ?_
      simp only [Act.put, List.setIfInBounds_toArray, List.set_cons_zero, List.set_cons_succ]
      refine take_lawH 11 (some 22) (fv f) rfl rfl (by kernel_rfl) (by kernel_rfl) (by kernel_rfl) (fun _ _ _ h => h) (Or.inl ⟨by rfl, fun w' hw' => by rfl⟩) hS ?_
      simp only [Act.put, List.setIfInBounds_toArray, List.set_cons_zero, List.set_cons_succ]
      refine take_lawH 12 (some 23) (.bool true) rfl rfl (by kernel_rfl) (by kernel_rfl) (by kernel_rfl) (fun _ _ _ h => h) (Or.inl ⟨by rfl, fun w' hw' => by rfl⟩) hS ?_
      simp only [Act.put, List.setIfInBounds_toArray, List.set_cons_zero, List.set_cons_succ]
      refine wpAnyH_ready (rs := [14]) (by kernel_rfl) (by simp) ?_
      refine AllReadyH.cons rfl (fun K hK => ?_) AllReadyH.nil
      refine step_storeF _ rfl none rfl (.tmp 9) (.tmp 22) rfl hf f rfl rfl HV.out.2 (byt_one_cell HY.out) ?_
      intro x7 e9 v9 b9
      have HY : Hid (Byt x7 f.2.2 (msk (some (false, mm)))) := by rw [e9.out]; exact byt_flt HY.out HV.out.1 (by intro x e; cases e)
      have HV : Hid (FlV x7 hf f) := v9
      have hS : Below w2.heap.size w2 x7 := hS.trans (b9.mono ghf.out)
      clear v9 e9 b9
      refine hK.out _ _ hS (fun _ => ?_)
      simp only [Act.put]
      clear hK K
      refine take_lawH 15 (some 10) (.bool true) rfl rfl (by kernel_rfl) (by kernel_rfl) (by kernel_rfl) (fun _ _ _ h => h) (Or.inl ⟨by rfl, fun w' hw' => by rfl⟩) hS ?_
      simp only [Act.put, List.setIfInBounds_toArray, List.set_cons_zero, List.set_cons_succ]
      refine wpAnyH_done (by kernel_rfl) ?_ _
      go_wp2_with fail
      go_meet
      exact ⟨hf, f, rfl, rfl, HV.out, HCR.out, HY.out, hS, ghf.out⟩
  case rest =>
    obtain ⟨hf, f, rfl, rfl, V3, cr3, y3, B3, g3⟩ := hcut
    obtain ⟨fx, fc, fm⟩ := f
    have cr3' : fc = false := cr3
    subst cr3'
    have y3' : Byt wc fm (msk (some (false, mm))) := y3
    obtain ⟨mo, mc, rfl⟩ := byt_form y3'
    have HY : Hid (Byt wc (.slice mo (msk (some (false, mm))).length mc) (msk (some (false, mm)))) := y3'
    have HFV : Hid (FlV wc hf (fx, false, .slice mo (msk (some (false, mm))).length mc)) := V3
    have BB : Hid (Below w.heap.size w wc) := BB.out.trans (B3.mono BB.out.size)
    have HL : Hid (Lay (fun k => M k || decide (B ≤ k)) wc c r d q pv (.slice tq n tc) g N P S pl X) := HL.out.below B3
    have lw : Hid (B = h1 ∧ h1 < h2 ∧ h2 < hf ∧ hf < wc.heap.size) := ⟨l12.out.1, l12.out.2.1, by have a1 := l12.out; omega, V3.1.lt⟩
    have HV1 : Hid (Vr wc h1 (opc (opn ok1 ob op od 0) dv)) := HV1.out.below B3 (by have a1 := l12.out; omega)
    have HV2 : Hid (Vr wc h2 [.func (.func K1) #[] c1, .func (.func K2) #[] c2]) := HV2.out.below B3 (by have a1 := l12.out; omega)
    have HDe : Hid (Deed wc (.agg ([.func (.func K1) #[] c1, .func (.func K2) #[] c2] : List Value).toArray) (.slice (some ⟨d, off, none⟩) len cap) R) := HDe.out.below BB.out
    have SC : Hid (Calls Tryz.prog K2 (#[.slice (some ⟨d, off, none⟩) len cap, fv (fx, false, .slice mo (msk (some (false, mm))).length mc)] ++ c2) wc fun e w' => ∃ v, e = .returned v ∧ Byt w' v (R (some (false, mm))) ∧ Below wc.heap.size wc w') := by
      obtain ⟨k1, d1, k2, d2, ee, _, _, s1, s2⟩ := HDe.out
      simp at ee
      obtain ⟨⟨rfl, rfl⟩, rfl, rfl⟩ := ee
      exact s2 wc (fx, false, .slice mo (msk (some (false, mm))).length mc) (msk (some (false, mm))) (Below.refl _ _) HY.out
    have FF : Hid (Frm (fun k => M k || decide (B ≤ k)) w wc) := Frm.of_below BB.out
    have fk1 := HV2.out.cell 0 _ rfl
    have fk2 := HV2.out.cell 1 _ rfl
    have fcr := HFV.out.1.2.1
    have dd : Hid (d < wc.heap.size ∧ c < wc.heap.size) := ⟨HL.out.2.2.2.2.2.2.2.2.2.2.2.1, HL.out.2.2.2.2.2.2.2.2.2.1⟩
    have md : Hid (M d = true ∧ M c = true) := ⟨HSep.out.1.2.2.1, HSep.out.1.1⟩
    have nn : Hid (h1 ≠ d ∧ hf ≠ d ∧ h1 ≠ c ∧ hf ≠ c ∧ h1 ≠ hf) := by
      have a1 := HNE.out h1 (by have := lw.out; omega)
      have a2 := HNE.out hf (by have := lw.out; omega)
      exact ⟨fun e => a1.2.2.1 e.symm, fun e => a2.2.2.1 e.symm, fun e => a1.1 e.symm, fun e => a2.1 e.symm, by have := lw.out; omega⟩
    have mh : Hid ((M h1 || decide (B ≤ h1)) = true) := by
      show _ = true
      have : B ≤ h1 := by have := lw.out; omega
      simp [this]
    generalize R (some (false, mm)) = rs at *
    clear V3 cr3 y3 y3' B3 g3 HDe l12
    have t1 : (1 : Nat) = 1 := rfl
    go_wp2_with (first
      | (have q_t4 := t4; refine store_law1 _ h1 4 (.int .i64 5) rfl rfl (HV1.out.there1 4 (by show 4 < 5; omega)) (HV1.out.free 4 (by show 4 < 5; omega)) one_errno.2 rfl rfl ?_; intro w7 e_w7
         have g_w7 : w6.grownBy w7 (some h1) := by rw [e_w7.out]; exact keep_set _ _ _ _
         have HL : Hid (Lay (fun k => M k || decide (B ≤ k)) w7 c r d q pv (.slice tq n tc) g N P S pl (mkX (laid (xi X) off rs) (xp X) (xe X) (xs X) (xo X) (xt X))) := by
           obtain ⟨a1, a2, a3, a4, a5⟩ := HNE.out h1 (by have := lw.out; omega)
           exact HL.out.loc g_w7 mh.out a1 a2 a3 a4 a5
         have HV1 : Hid (Vr w7 h1 (opc (opn ok1 ob op od 5) dv)) := by
           have := HV1.out.set 4 (by show 4 < 5; omega) (.int .i64 5)
           rw [opc_set, ← e_w7.out] at this
           exact this
         have fcr := (World.cell?_of_block (w := w6) (w' := w7) (a := ⟨hf, 1, none⟩) (g_w7.block hf lw.out.2.2.2 (by simp; exact fun e => nn.out.2.2.2.2 e.symm))).trans fcr
         have lw : Hid (B = h1 ∧ h1 < h2 ∧ h2 < hf ∧ hf < w7.heap.size) := ⟨lw.out.1, lw.out.2.1, lw.out.2.2.1, Nat.lt_of_lt_of_le lw.out.2.2.2 g_w7.size⟩
         have FF : Hid (Frm (fun k => M k || decide (B ≤ k)) w w7) := FF.out.tr (Frm.grown g_w7 (fun k e => by injection e with e; subst e; exact mh.out))
         clear e_w7 g_w7 t4; have t5 : (1 : Nat) = 1 := rfl)
      | (have q_cp := t3; refine copy_lawN _ rfl (.tmp 25) (.tmp 30) rfl d off len cap _ rs rfl rfl Y5.out (fun j hj => HT5.out j (by omega)) ?_; intro w6 e_w6
         have e6 : w6 = w5.setCells d off (rs.map (Value.int .u8)) := by have := e_w6.out; rw [List.take_of_length_le (by rw [HR.out.1]; exact Nat.le_refl _)] at this; exact this
         have g_w6 : w5.grownBy w6 (some d) := by rw [e6]; exact keep_cells _ _ _ _
         have hA : Ar w6 d 0 .u8 (laid (xi X) off rs) := by rw [e6]; exact HL.out.2.2.2.2.1.1.layG off rs (by rw [HR.out.1]; exact HI.out.1)
         have HL : Hid (Lay (fun k => M k || decide (B ≤ k)) w6 c r d q pv (.slice tq n tc) g N P S pl (mkX (laid (xi X) off rs) (xp X) (xe X) (xs X) (xo X) (xt X))) := HL.out.img g_w6 _ hA (by rw [laid_len _ _ _ (by rw [HR.out.1]; exact HI.out.1)]; exact HL.out.2.2.2.2.1.2.1) (laid_all HL.out.2.2.2.2.1.2.2 HR.out.2 (by rw [HR.out.1]; exact HI.out.1))
         have HV1 : Hid (Vr w6 h1 (opc (opn ok1 ob op od 0) dv)) := HV1.out.kept g_w6 (by have := lw.out; omega) (by simp; exact nn.out.1)
         have fcr := (World.cell?_of_block (w := w5) (w' := w6) (a := ⟨hf, 1, none⟩) (g_w6.block hf lw.out.2.2.2 (by simp; exact nn.out.2.1))).trans fcr
         have lw : Hid (B = h1 ∧ h1 < h2 ∧ h2 < hf ∧ hf < w6.heap.size) := ⟨lw.out.1, lw.out.2.1, lw.out.2.2.1, Nat.lt_of_lt_of_le lw.out.2.2.2 g_w6.size⟩
         have FF : Hid (Frm (fun k => M k || decide (B ≤ k)) w w6) := FF.out.tr (Frm.grown g_w6 (fun k e => by injection e with e; subst e; simp [md.out.1]))
         clear e_w6 e6 g_w6 hA t3; have t4 : (1 : Nat) = 1 := rfl)
      | (have q_cl := t2; (with_reducible refine SC.out.mono ?_); rintro e w5 ⟨v5, rfl, y5, B5⟩; have Y5 : Hid (Byt w5 v5 rs) := y5
         have HL : Hid (Lay (fun k => M k || decide (B ≤ k)) w5 c r d q pv (.slice tq n tc) g N P S pl X) := HL.out.below B5
         have HT5 : Hid (w5.there d off len) := thereG HL.out.2.2.2.2.1.1 off len HI.out.1
         have HV1 : Hid (Vr w5 h1 (opc (opn ok1 ob op od 0) dv)) := HV1.out.below B5 (by have := lw.out; omega)
         have fcr := (B5.cell (p := ⟨hf, 1, none⟩) lw.out.2.2.2).trans fcr
         have lw : Hid (B = h1 ∧ h1 < h2 ∧ h2 < hf ∧ hf < w5.heap.size) := ⟨lw.out.1, lw.out.2.1, lw.out.2.2.1, Nat.lt_of_lt_of_le lw.out.2.2.2 B5.size⟩
         have FF : Hid (Frm (fun k => M k || decide (B ≤ k)) w w5) := FF.out.tr (Frm.of_below B5)
         clear y5 B5 t2; have t3 : (1 : Nat) = 1 := rfl)
      | (have q_ld := t1; refine load_lawS _ (by rfl) _ _ rfl (load_fault HFV.out.1) ?_; clear t1; have t2 : (1 : Nat) = 1 := rfl))
    have HL : Hid (Lay (fun k => M k || decide (B ≤ k)) w7.drew c r d q pv (.slice tq n tc) g N P S pl (mkX (laid (xi X) off rs) (xp X) (xe X) (xs X) (xo X) (xt X))) := HL.out.below (Below.refl _ _).drew
    have FF : Hid (Frm (fun k => M k || decide (B ≤ k)) w w7.drew) := FF.out
    refine wp_region_held_drew (S := fun w' => Vr w' h1 (opc (opn ok1 ob op od 5) dv)) (by kernel_rfl) (HV1.out.heap rfl) (fun hS => ?_)
    obtain ⟨z1, hx0⟩ : ∃ x, x = w7.drew := ⟨_, rfl⟩
    rw [← hx0] at hS HL FF ⊢
    clear hx0
    refine take_lawH 0 (some 45) (.pointer (some ⟨c, 0, none⟩)) rfl rfl (by kernel_rfl) (by kernel_rfl) (by kernel_rfl) (fun _ _ _ h => h) (Or.inl ⟨by rfl, fun w' hw' => by rfl⟩) hS ?_
    simp only [Act.put, List.setIfInBounds_toArray, List.set_cons_zero, List.set_cons_succ]
    refine take_lawH 1 (some 46) (.pointer (some ⟨c, 0, none⟩)) rfl rfl (by kernel_rfl) (by kernel_rfl) (by kernel_rfl) (fun _ _ _ h => h) (Or.inl ⟨by rfl, fun w' hw' => by rfl⟩) hS ?_
    simp only [Act.put, List.setIfInBounds_toArray, List.set_cons_zero, List.set_cons_succ]
    refine take_lawH 2 (some 47) (.pointer (some ⟨c, 0, none⟩)) rfl rfl (by kernel_rfl) (by kernel_rfl) (by kernel_rfl) (fun _ _ _ h => h) (Or.inl ⟨by rfl, fun w' hw' => by go_simp⟩) hS ?_
    simp only [Act.put, List.setIfInBounds_toArray, List.set_cons_zero, List.set_cons_succ]
    refine take_lawH 3 (some 48) (.pointer (some ⟨c, 10, none⟩)) rfl rfl (by kernel_rfl) (by kernel_rfl) (by kernel_rfl) (fun _ _ _ h => h) (Or.inl ⟨by rfl, fun w' hw' => by go_simp⟩) hS ?_
    simp only [Act.put, List.setIfInBounds_toArray, List.set_cons_zero, List.set_cons_succ]
    refine take_lawH 5 (some 50) (.agg (opc (opn ok1 ob op od 5) dv).toArray) rfl rfl (by kernel_rfl) (by kernel_rfl) (by kernel_rfl) (fun _ _ _ h => h) (Or.inl ⟨by rfl, fun w' hw' => by exact exec_loadN 197 (.tmp 5) rfl _ rfl _ _ (load_cells rowy_op hw'.1)⟩) hS ?_
    simp only [Act.put, List.setIfInBounds_toArray, List.set_cons_zero, List.set_cons_succ]
    refine wpAnyH_ready (rs := [4, 6]) (by kernel_rfl) (by simp) ?_
    refine AllReadyH.cons rfl (fun K hK => ?_) (AllReadyH.cons rfl (fun K hK => ?_) AllReadyH.nil)
    · refine step_load _ rfl (some 49) rfl (.tmp 48) 105 rfl _ (.slice tq n tc) rfl (load_one one_oprs HL.out.cells.2.2.2.2) ?_
      refine hK.out _ _ hS (fun _ => ?_)
      simp only [Act.put, List.setIfInBounds_toArray, List.set_cons_zero, List.set_cons_succ]
      clear hK K
      refine wpAnyH_ready (rs := [6]) (by kernel_rfl) (by simp) ?_
      refine AllReadyH.cons rfl (fun K hK => ?_) AllReadyH.nil
      refine step_one _ rfl (some 51) rfl (.tmp 50) 105 197 rfl (opc (opn ok1 ob op od 5) dv) rfl (fun w => build_op _ _ _ _ _ w) ?_
      intro z2 rw9 b9
      obtain ⟨h9, e9⟩ : ∃ x, x = z1.heap.size := ⟨_, rfl⟩
      rw [← e9] at rw9 ⊢
      have RW : Hid (Rws z2 (.slice (some ⟨h9, 0, none⟩) 1 1) 5 [opc (opn ok1 ob op od 5) dv]) := rw9
      have HL : Hid (Lay (fun k => M k || decide (B ≤ k)) z2 c r d q pv (.slice tq n tc) g N P S pl (mkX (laid (xi X) off rs) (xp X) (xe X) (xs X) (xo X) (xt X))) := HL.out.below b9
      have hS : Vr z2 h1 (opc (opn ok1 ob op od 5) dv) := hS.below b9 (range_lt hS.1 (by show 0 < 5; omega))
      have FF : Hid (Frm (fun k => M k || decide (B ≤ k)) w z2) := FF.out.tr (Frm.of_below b9)
      clear rw9 b9 e9
      refine hK.out _ _ hS (fun _ => ?_)
      simp only [Act.put, List.setIfInBounds_toArray, List.set_cons_zero, List.set_cons_succ]
      clear hK K
      refine wpAnyH_ready (rs := [7]) (by kernel_rfl) (by simp) ?_
      refine AllReadyH.cons rfl (fun K hK => ?_) AllReadyH.nil
      obtain ⟨dvs, tO, tB, tM⟩ := HL.out.2.2.2.2.2.2.2.1
      have tO' : OwR 0 z2 (.slice tq n tc) 197 5 (opcs (xt X) dvs) := tO
      have hln : (opcs (xt X) dvs).length = n := by rw [opcs_len]; exact HN.out
      refine step_appT _ rfl (some 52) rfl (.tmp 49) (.tmp 51) 105 197 rfl Tryz.underlying105 _ 5 56 info_op rfl (by decide) _ _ (opcs (xt X) dvs) [opc (opn ok1 ob op od 5) dv] rfl rfl tO' RW.out (opc_one _ _ hdo) (by rw [hln]; simp; omega) (by rw [hln]; simp; omega) (by simp) ?_
      intro tv9 z3 o9 g9 f9
      have HG : Hid (z2.grownBy z3 (Value.slice tq n tc).ownBlock ∧ (tv9.ownBlock = (Value.slice tq n tc).ownBlock ∨ ∃ k, tv9.ownBlock = some k ∧ z2.heap.size ≤ k)) := ⟨g9, f9⟩
      have HO9 : Hid (OwR 0 z3 tv9 197 5 (opcs (xt X) dvs ++ [opc (opn ok1 ob op od 5) dv]) ∧ ∀ i, i < (xt X).length → Byt (hid (fun k => M k || decide (B ≤ k)) z2) (dvs i) (gO (xt X) i).2.2.2.1) := ⟨o9, tB⟩
      have a5 := (HNE.out h1 (by have := lw.out; omega)).2.2.2.2
      have hne1 : some h1 ≠ (Value.slice tq n tc).ownBlock := fun e => a5 h1 e.symm rfl
      have hne2 : some c ≠ (Value.slice tq n tc).ownBlock := fun e => (HL.out.2.2.1 c e.symm).1 rfl
      have HC9 : Hid ((z3.cell? ⟨c, 10, none⟩).isSome = true ∧ z3.frozen? ⟨c, 10, none⟩ = false) := by
        have b9 := g9.block c HL.out.2.2.2.2.2.2.2.2.2.1 hne2
        show _ ∧ _
        rw [World.cell?_of_block (w := z2) (w' := z3) (a := ⟨c, 10, none⟩) b9, World.frozen?_of_block (w := z2) (w' := z3) (a := ⟨c, 10, none⟩) b9]
        exact HL.out.free 10 (by decide)
      have hS : Vr z3 h1 (opc (opn ok1 ob op od 5) dv) := hS.kept g9 (range_lt hS.1 (by show 0 < 5; omega)) hne1
      clear tO tB tM tO' hln o9 g9 f9 a5 hne1 hne2
      refine hK.out _ _ hS (fun _ => ?_)
      simp only [Act.put, List.setIfInBounds_toArray, List.set_cons_zero, List.set_cons_succ]
      clear hK K
      refine take_lawH 8 (some 53) (.pointer (some ⟨c, 0, none⟩)) rfl rfl (by kernel_rfl) (by kernel_rfl) (by kernel_rfl) (fun _ _ _ h => h) (Or.inl ⟨by rfl, fun w' hw' => by go_simp⟩) hS ?_
      simp only [Act.put, List.setIfInBounds_toArray, List.set_cons_zero, List.set_cons_succ]
      refine take_lawH 9 (some 54) (.pointer (some ⟨c, 10, none⟩)) rfl rfl (by kernel_rfl) (by kernel_rfl) (by kernel_rfl) (fun _ _ _ h => h) (Or.inl ⟨by rfl, fun w' hw' => by go_simp⟩) hS ?_
      simp only [Act.put, List.setIfInBounds_toArray, List.set_cons_zero, List.set_cons_succ]
      refine wpAnyH_ready (rs := [10]) (by kernel_rfl) (by simp) ?_
      refine AllReadyH.cons rfl (fun K hK => ?_) AllReadyH.nil
      refine step_store1 _ rfl none rfl (.tmp 54) (.tmp 52) 105 rfl c 10 tv9 rfl rfl HC9.out.1 HC9.out.2 one_oprs.2 (own_one HO9.out.1) (own_cells HO9.out.1) ?_
      intro z4 e9
      have hS : Vr z4 h1 (opc (opn ok1 ob op od 5) dv) := by rw [e9.out]; exact hS.other _ nn.out.2.2.1
      have HT := HL.out.trc (opn ok1 ob op od 5) dv tv9 HG.out.1 HG.out.2 (HD.out.below FF.out.hid0) dvs HO9.out.2 HO9.out.1
      rw [← e9.out] at HT
      have HT' : Hid (_ ∧ _ ∧ _ ∧ _) := HT
      clear HT e9
      refine hK.out _ _ hS (fun _ => ?_)
      simp only [Act.put]
      clear hK K
      refine wpAnyH_done (by kernel_rfl) ?_ _
      have f4 := hS.cell 4 _ rfl
      go_wp2
      go_ret
      have PE := perf_end HB.out HMlt.out FF.out HT'.out.2.1 HT'.out.1 HT'.out.2.2.1 HT'.out.2.2.2 HSep.out
      exact ⟨_, tv9, rfl, by have := PE.1; have e := HON.out; exact lay_on this e, PE.2⟩
    · refine step_one _ rfl (some 51) rfl (.tmp 50) 105 197 rfl (opc (opn ok1 ob op od 5) dv) rfl (fun w => build_op _ _ _ _ _ w) ?_
      intro z5 rw9 b9
      obtain ⟨h9, e9⟩ : ∃ x, x = z1.heap.size := ⟨_, rfl⟩
      rw [← e9] at rw9 ⊢
      have RW : Hid (Rws z5 (.slice (some ⟨h9, 0, none⟩) 1 1) 5 [opc (opn ok1 ob op od 5) dv]) := rw9
      have HL : Hid (Lay (fun k => M k || decide (B ≤ k)) z5 c r d q pv (.slice tq n tc) g N P S pl (mkX (laid (xi X) off rs) (xp X) (xe X) (xs X) (xo X) (xt X))) := HL.out.below b9
      have hS : Vr z5 h1 (opc (opn ok1 ob op od 5) dv) := hS.below b9 (range_lt hS.1 (by show 0 < 5; omega))
      have FF : Hid (Frm (fun k => M k || decide (B ≤ k)) w z5) := FF.out.tr (Frm.of_below b9)
      clear rw9 b9 e9
      refine hK.out _ _ hS (fun _ => ?_)
      simp only [Act.put, List.setIfInBounds_toArray, List.set_cons_zero, List.set_cons_succ]
      clear hK K
      refine wpAnyH_ready (rs := [4]) (by kernel_rfl) (by simp) ?_
      refine AllReadyH.cons rfl (fun K hK => ?_) AllReadyH.nil
      refine step_load _ rfl (some 49) rfl (.tmp 48) 105 rfl _ (.slice tq n tc) rfl (load_one one_oprs HL.out.cells.2.2.2.2) ?_
      refine hK.out _ _ hS (fun _ => ?_)
      simp only [Act.put, List.setIfInBounds_toArray, List.set_cons_zero, List.set_cons_succ]
      clear hK K
      refine wpAnyH_ready (rs := [7]) (by kernel_rfl) (by simp) ?_
      refine AllReadyH.cons rfl (fun K hK => ?_) AllReadyH.nil
      obtain ⟨dvs, tO, tB, tM⟩ := HL.out.2.2.2.2.2.2.2.1
      have tO' : OwR 0 z5 (.slice tq n tc) 197 5 (opcs (xt X) dvs) := tO
      have hln : (opcs (xt X) dvs).length = n := by rw [opcs_len]; exact HN.out
      refine step_appT _ rfl (some 52) rfl (.tmp 49) (.tmp 51) 105 197 rfl Tryz.underlying105 _ 5 56 info_op rfl (by decide) _ _ (opcs (xt X) dvs) [opc (opn ok1 ob op od 5) dv] rfl rfl tO' RW.out (opc_one _ _ hdo) (by rw [hln]; simp; omega) (by rw [hln]; simp; omega) (by simp) ?_
      intro tv9 z6 o9 g9 f9
      have HG : Hid (z5.grownBy z6 (Value.slice tq n tc).ownBlock ∧ (tv9.ownBlock = (Value.slice tq n tc).ownBlock ∨ ∃ k, tv9.ownBlock = some k ∧ z5.heap.size ≤ k)) := ⟨g9, f9⟩
      have HO9 : Hid (OwR 0 z6 tv9 197 5 (opcs (xt X) dvs ++ [opc (opn ok1 ob op od 5) dv]) ∧ ∀ i, i < (xt X).length → Byt (hid (fun k => M k || decide (B ≤ k)) z5) (dvs i) (gO (xt X) i).2.2.2.1) := ⟨o9, tB⟩
      have a5 := (HNE.out h1 (by have := lw.out; omega)).2.2.2.2
      have hne1 : some h1 ≠ (Value.slice tq n tc).ownBlock := fun e => a5 h1 e.symm rfl
      have hne2 : some c ≠ (Value.slice tq n tc).ownBlock := fun e => (HL.out.2.2.1 c e.symm).1 rfl
      have HC9 : Hid ((z6.cell? ⟨c, 10, none⟩).isSome = true ∧ z6.frozen? ⟨c, 10, none⟩ = false) := by
        have b9 := g9.block c HL.out.2.2.2.2.2.2.2.2.2.1 hne2
        show _ ∧ _
        rw [World.cell?_of_block (w := z5) (w' := z6) (a := ⟨c, 10, none⟩) b9, World.frozen?_of_block (w := z5) (w' := z6) (a := ⟨c, 10, none⟩) b9]
        exact HL.out.free 10 (by decide)
      have hS : Vr z6 h1 (opc (opn ok1 ob op od 5) dv) := hS.kept g9 (range_lt hS.1 (by show 0 < 5; omega)) hne1
      clear tO tB tM tO' hln o9 g9 f9 a5 hne1 hne2
      refine hK.out _ _ hS (fun _ => ?_)
      simp only [Act.put, List.setIfInBounds_toArray, List.set_cons_zero, List.set_cons_succ]
      clear hK K
      refine take_lawH 8 (some 53) (.pointer (some ⟨c, 0, none⟩)) rfl rfl (by kernel_rfl) (by kernel_rfl) (by kernel_rfl) (fun _ _ _ h => h) (Or.inl ⟨by rfl, fun w' hw' => by go_simp⟩) hS ?_
      simp only [Act.put, List.setIfInBounds_toArray, List.set_cons_zero, List.set_cons_succ]
      refine take_lawH 9 (some 54) (.pointer (some ⟨c, 10, none⟩)) rfl rfl (by kernel_rfl) (by kernel_rfl) (by kernel_rfl) (fun _ _ _ h => h) (Or.inl ⟨by rfl, fun w' hw' => by go_simp⟩) hS ?_
      simp only [Act.put, List.setIfInBounds_toArray, List.set_cons_zero, List.set_cons_succ]
      refine wpAnyH_ready (rs := [10]) (by kernel_rfl) (by simp) ?_
      refine AllReadyH.cons rfl (fun K hK => ?_) AllReadyH.nil
      refine step_store1 _ rfl none rfl (.tmp 54) (.tmp 52) 105 rfl c 10 tv9 rfl rfl HC9.out.1 HC9.out.2 one_oprs.2 (own_one HO9.out.1) (own_cells HO9.out.1) ?_
      intro z7 e9
      have hS : Vr z7 h1 (opc (opn ok1 ob op od 5) dv) := by rw [e9.out]; exact hS.other _ nn.out.2.2.1
      have HT := HL.out.trc (opn ok1 ob op od 5) dv tv9 HG.out.1 HG.out.2 (HD.out.below FF.out.hid0) dvs HO9.out.2 HO9.out.1
      rw [← e9.out] at HT
      have HT' : Hid (_ ∧ _ ∧ _ ∧ _) := HT
      clear HT e9
      refine hK.out _ _ hS (fun _ => ?_)
      simp only [Act.put]
      clear hK K
      refine wpAnyH_done (by kernel_rfl) ?_ _
      have f4 := hS.cell 4 _ rfl
      go_wp2
      go_ret
      have PE := perf_end HB.out HMlt.out FF.out HT'.out.2.1 HT'.out.1 HT'.out.2.2.1 HT'.out.2.2.2 HSep.out
      exact ⟨_, tv9, rfl, by have := PE.1; have e := HON.out; exact lay_on this e, PE.2⟩
set_option maxHeartbeats 8000000 in
theorem perform_crash (h : Lay M w c r d q pv tv g N P S pl X) (hM : Mlt M w) (hon : xo X = true) (o : Opn) (ho : o.2.2.2.2 = 0) (dv : Value) (off len cap : Nat) (deed : Value) (R : Option (Bool × List Int) → List Int) (mm : List Int) (hpl : pl (xt X).length = (some (true, mm)))
    (hD : Deed w deed (.slice (some ⟨d, off, none⟩) len cap) R) (hd : Byt (hid M w) dv o.2.2.2.1) (hf : off + len ≤ N * (P * S)) (hR : (R (some (true, mm))).length = len ∧ AllB (R (some (true, mm)))) (htr : (xt X).length ≤ 1000000) :
    Calls Tryz.prog 98 #[.pointer (some ⟨c, 0, none⟩), .agg (opc o dv).toArray, .slice (some ⟨d, off, none⟩) len cap, deed] w (Perf M w c r d q pv g N P S pl X off (R (some (true, mm))) o (some (true, mm))) := by
  obtain ⟨B, hB⟩ : ∃ B, B = w.heap.size := ⟨_, rfl⟩
  have hmore : ∀ k, k < w.heap.size → (M k || decide (B ≤ k)) = M k := fun k hk => by
    have : ¬ (B ≤ k) := by omega
    simp [this]
  obtain ⟨tq, tc, htv⟩ : ∃ tq tc, tv = .slice tq (xt X).length tc := by
    obtain ⟨dvs, tO, -, -⟩ := h.2.2.2.2.2.2.2.1
    obtain ⟨tq, tc, e⟩ := tO.rws.form
    rw [opcs_len] at e
    exact ⟨tq, tc, e⟩
  subst htv
  have HL : Hid (Lay (fun k => M k || decide (B ≤ k)) w c r d q pv (.slice tq (xt X).length tc) g N P S pl X) := h.more hmore
  have HNE : Hid (∀ x, B ≤ x → c ≠ x ∧ r ≠ x ∧ d ≠ x ∧ (∀ b, b < N → q b ≠ x) ∧ ∀ k, (Value.slice tq (xt X).length tc).ownBlock = some k → k ≠ x) := fun x hx => by
    obtain ⟨dvs, tO, -, -⟩ := h.2.2.2.2.2.2.2.1
    obtain ⟨b1, b2, b3, b4⟩ := h.2.2.2.2.2.2.2.2.2
    exact ⟨by omega, by omega, by omega, fun b hb => by have := b4 b hb; omega, fun k hk => by have := (tO.1.lt k hk).2; omega⟩
  have HSep : Hid (Sep M c r d q N) := h.2.1
  have HMlt : Hid (Mlt M w) := hM
  have HDe : Hid (Deed w deed (.slice (some ⟨d, off, none⟩) len cap) R) := hD
  obtain ⟨K1, c1, K2, c2, rfl, cf1, cf2, -, -⟩ := hD
  have HD : Hid (Byt (hid (fun k => M k || decide (B ≤ k)) w) dv o.2.2.2.1) := hd.below ((Frm.refl M w).hid hmore)
  have hdo : dv.oneCell' = true := byt_one_cell hd
  have SA : Hid (∀ w0, Below w.heap.size w w0 → Calls Tryz.prog 137 #[pv, .int .i64 ((xt X).length : Int)] w0 fun e w' => ∃ f : Int × Bool × Value, e = .returned (.tuple #[fv f, .bool true]) ∧ f.2.1 = true ∧ Byt w' f.2.2 (msk (some (true, mm))) ∧ Below w0.heap.size w0 w') := fun w0 hw => by
    have := at_pln (hid_pla (h.below hw).2.2.2.2.2.2.2.2.1) (xt X).length
    rw [hpl] at this
    exact this
  have HON : Hid (xo X = true) := hon
  have HR : Hid ((R (some (true, mm))).length = len ∧ AllB (R (some (true, mm)))) := hR
  have HI : Hid (off + len ≤ (xi X).length ∧ off + len ≤ N * (P * S)) := ⟨by rw [h.2.2.2.2.1.2.1]; exact hf, hf⟩
  obtain ⟨ok1, ob, op, od, oe⟩ := o
  have ho' : oe = 0 := ho
  subst ho'
  obtain ⟨n, hn⟩ : ∃ n, (xt X).length = n := ⟨_, rfl⟩
  rw [hn] at SA HL HNE htr hpl
  have HN : Hid ((xt X).length = n) := hn
  have HB : Hid (B = w.heap.size) := hB
  clear h hd ho hR hon hf hn hpl hmore hM hB
  have t0 : (0 : Nat) = 0 := rfl
  go_enter Tryz.func98, Tryz.ntmps98
  go_wp2_with (first
    | (have q1 := t1; refine box_lawC _ [.func (.func K1) #[] c1, .func (.func K2) #[] c2] rfl ?_; intro w2 V2 B2 l2; have HV2 : Hid (Vr w2 w1.heap.size [.func (.func K1) #[] c1, .func (.func K2) #[] c2]) := V2; have HV1 : Hid (Vr w2 w.heap.size (opc (opn ok1 ob op od 0) dv)) := HV1.out.below B2 l1; have BB : Hid (Below w.heap.size w w2) := BB.out.trans (B2.mono (Nat.le_of_lt l1)); clear V2 B2 t1)
    | (have q0 := t0; refine box_lawC _ (opc (opn ok1 ob op od 0) dv) rfl ?_; intro w1 V1 B1 l1; have HV1 : Hid (Vr w1 w.heap.size (opc (opn ok1 ob op od 0) dv)) := V1; have BB : Hid (Below w.heap.size w w1) := B1; clear V1 B1 t0; have t1 : (1 : Nat) = 1 := rfl))
  have HL : Hid (Lay (fun k => M k || decide (B ≤ k)) w2 c r d q pv (.slice tq n tc) g N P S pl X) := HL.out.below BB.out
  obtain ⟨h1, e1⟩ : ∃ x, x = w.heap.size := ⟨_, rfl⟩
  obtain ⟨h2, e2⟩ : ∃ x, x = w1.heap.size := ⟨_, rfl⟩
  rw [← e1] at HV1
  rw [← e2] at HV2
  have l12 : Hid (B = h1 ∧ h1 < h2 ∧ h2 < w2.heap.size) := ⟨by rw [e1]; exact HB.out, by omega, by omega⟩
  rw [← e1, ← e2]
  clear e1 e2 l1 l2
  go_cut [9, 10] (fun r9 r10 wc => ∃ (hf : Nat) (f : Int × Bool × Value), r9 = .pointer (some ⟨hf, 0, none⟩) ∧ r10 = .bool true ∧ FlV wc hf f ∧ f.2.1 = true ∧ Byt wc f.2.2 (msk (some (true, mm))) ∧ Below w2.heap.size w2 wc ∧ w2.heap.size ≤ hf)
  case first =>
    refine wp_region_held_drew (S := fun w' => Below w2.heap.size w2 w') (by kernel_rfl) (Below.refl _ _).drew (fun hS => ?_)
    obtain ⟨x1, hx0⟩ : ∃ x, x = w2.drew := ⟨_, rfl⟩
    rw [← hx0] at hS  ⊢
    clear hx0
    refine take_lawH 0 (some 12) (.pointer (some ⟨c, 0, none⟩)) rfl rfl (by kernel_rfl) (by kernel_rfl) (by kernel_rfl) (fun _ _ _ h => h) (Or.inl ⟨by rfl, fun w' hw' => by rfl⟩) hS ?_
    simp only [Act.put, List.setIfInBounds_toArray, List.set_cons_zero, List.set_cons_succ]
    refine take_lawH 1 (some 13) (.pointer (some ⟨c, 0, none⟩)) rfl rfl (by kernel_rfl) (by kernel_rfl) (by kernel_rfl) (fun _ _ _ h => h) (Or.inl ⟨by rfl, fun w' hw' => by go_simp⟩) hS ?_
    simp only [Act.put, List.setIfInBounds_toArray, List.set_cons_zero, List.set_cons_succ]
    refine take_lawH 2 (some 14) (.pointer (some ⟨c, 6, none⟩)) rfl rfl (by kernel_rfl) (by kernel_rfl) (by kernel_rfl) (fun _ _ _ h => h) (Or.inl ⟨by rfl, fun w' hw' => by go_simp⟩) hS ?_
    simp only [Act.put, List.setIfInBounds_toArray, List.set_cons_zero, List.set_cons_succ]
    refine take_lawH 3 (some 15) (pv) rfl rfl (by kernel_rfl) (by kernel_rfl) (by kernel_rfl) (fun _ _ _ h => h) (Or.inl ⟨by rfl, fun w' hw' => by exact exec_loadN 36 (.tmp 14) rfl _ rfl _ _ (load_one one_faults (HL.out.below hw').cells.1)⟩) hS ?_
    simp only [Act.put, List.setIfInBounds_toArray, List.set_cons_zero, List.set_cons_succ]
    refine take_lawH 4 (some 16) (.pointer (some ⟨c, 0, none⟩)) rfl rfl (by kernel_rfl) (by kernel_rfl) (by kernel_rfl) (fun _ _ _ h => h) (Or.inl ⟨by rfl, fun w' hw' => by rfl⟩) hS ?_
    simp only [Act.put, List.setIfInBounds_toArray, List.set_cons_zero, List.set_cons_succ]
    refine take_lawH 5 (some 17) (.pointer (some ⟨c, 0, none⟩)) rfl rfl (by kernel_rfl) (by kernel_rfl) (by kernel_rfl) (fun _ _ _ h => h) (Or.inl ⟨by rfl, fun w' hw' => by go_simp⟩) hS ?_
    simp only [Act.put, List.setIfInBounds_toArray, List.set_cons_zero, List.set_cons_succ]
    refine take_lawH 6 (some 18) (.pointer (some ⟨c, 10, none⟩)) rfl rfl (by kernel_rfl) (by kernel_rfl) (by kernel_rfl) (fun _ _ _ h => h) (Or.inl ⟨by rfl, fun w' hw' => by go_simp⟩) hS ?_
    simp only [Act.put, List.setIfInBounds_toArray, List.set_cons_zero, List.set_cons_succ]
    refine take_lawH 7 (some 19) (.slice tq n tc) rfl rfl (by kernel_rfl) (by kernel_rfl) (by kernel_rfl) (fun _ _ _ h => h) (Or.inl ⟨by rfl, fun w' hw' => by exact exec_loadN 105 (.tmp 18) rfl _ rfl _ _ (load_one one_oprs (HL.out.below hw').cells.2.2.2.2)⟩) hS ?_
    simp only [Act.put, List.setIfInBounds_toArray, List.set_cons_zero, List.set_cons_succ]
    refine take_lawH 8 (some 20) (.int .i64 (n : Int)) rfl rfl (by kernel_rfl) (by kernel_rfl) (by kernel_rfl) (fun _ _ _ h => h) (Or.inl ⟨by rfl, fun w' hw' => by go_simp⟩) hS ?_
    simp only [Act.put, List.setIfInBounds_toArray, List.set_cons_zero, List.set_cons_succ]
    refine wpAnyH_ready (rs := [9, 13]) (by kernel_rfl) (by simp) ?_
    refine AllReadyH.cons rfl (fun K hK => ?_) (AllReadyH.cons rfl (fun K hK => ?_) AllReadyH.nil)
    · refine ge.step_callW _ (by rfl) (some 21) rfl 137 #[.tmp 15, .tmp 20] #[36, 3] rfl (fun q w' => by rfl) #[pv, .int .i64 (n : Int)] (by simp only [List.map_toArray, List.map_cons, List.map_nil]; rfl) (fun v w' => ∃ f : Int × Bool × Value, v = .tuple #[fv f, .bool true] ∧ f.2.1 = true ∧ Byt w' f.2.2 (msk (some (true, mm))) ∧ Below x1.heap.size x1 w') ?_ ?_
      · refine (SA.out x1 (BB.out.trans (hS.mono BB.out.size))).mono ?_
        rintro e w' ⟨f, rfl, y⟩
        exact ⟨_, rfl, f, rfl, y⟩
      rintro _ x2 ⟨f, rfl, hcr, y, hb⟩
      have HCR : Hid (f.2.1 = true) := hcr
      have HY : Hid (Byt x2 f.2.2 (msk (some (true, mm)))) := y
      have hS : Below w2.heap.size w2 x2 := hS.trans (hb.mono hS.size)
      clear hcr y hb
      refine hK.out _ _ hS (fun _ => ?_)
      simp only [Act.put, List.setIfInBounds_toArray, List.set_cons_zero, List.set_cons_succ]
      clear hK K
      refine take_lawH 10 (some 11) (.tuple #[fv f, .bool true]) rfl rfl (by kernel_rfl) (by kernel_rfl) (by kernel_rfl) (fun _ _ _ h => h) (Or.inl ⟨by rfl, fun w' hw' => by rfl⟩) hS ?_
      simp only [Act.put, List.setIfInBounds_toArray, List.set_cons_zero, List.set_cons_succ]
      refine take_lawH 11 (some 22) (fv f) rfl rfl (by kernel_rfl) (by kernel_rfl) (by kernel_rfl) (fun _ _ _ h => h) (Or.inl ⟨by rfl, fun w' hw' => by rfl⟩) hS ?_
      simp only [Act.put, List.setIfInBounds_toArray, List.set_cons_zero, List.set_cons_succ]
      refine take_lawH 12 (some 23) (.bool true) rfl rfl (by kernel_rfl) (by kernel_rfl) (by kernel_rfl) (fun _ _ _ h => h) (Or.inl ⟨by rfl, fun w' hw' => by rfl⟩) hS ?_
      simp only [Act.put, List.setIfInBounds_toArray, List.set_cons_zero, List.set_cons_succ]
      refine wpAnyH_ready (rs := [13]) (by kernel_rfl) (by simp) ?_
      refine AllReadyH.cons rfl (fun K hK => ?_) AllReadyH.nil
      refine step_newC _ rfl (some 9) rfl 179 rfl _ zero_flt ?_
      intro x3 v9 b9 l9
      obtain ⟨hf, ehf⟩ : ∃ x, x = x2.heap.size := ⟨_, rfl⟩
      rw [← ehf] at v9 l9 ⊢
      have HV : Hid (FlV x3 hf f0) := ⟨FlA.of v9.1, v9.2⟩
      have lhf : Hid (hf < x3.heap.size) := l9
      have ghf : Hid (w2.heap.size ≤ hf) := by rw [ehf]; exact hS.size
      have HY : Hid (Byt x3 f.2.2 (msk (some (true, mm)))) := HY.out.below b9
      have hS : Below w2.heap.size w2 x3 := hS.trans (b9.mono hS.size)
      clear v9 b9 l9 ehf
      refine hK.out _ _ hS (fun _ => ?_)
      simp only [Act.put, List.setIfInBounds_toArray, List.set_cons_zero, List.set_cons_succ]
      clear hK K
      refine wpAnyH_ready (rs := [14]) (by kernel_rfl) (by simp) ?_
      refine AllReadyH.cons rfl (fun K hK => ?_) AllReadyH.nil
      refine step_storeF _ rfl none rfl (.tmp 9) (.tmp 22) rfl hf f rfl rfl HV.out.2 (byt_one_cell HY.out) ?_
      intro x4 e9 v9 b9
      have HY : Hid (Byt x4 f.2.2 (msk (some (true, mm)))) := by rw [e9.out]; exact byt_flt HY.out HV.out.1 (by intro x e; cases e)
      have HV : Hid (FlV x4 hf f) := v9
      have hS : Below w2.heap.size w2 x4 := hS.trans (b9.mono ghf.out)
      clear v9 e9 b9
      refine hK.out _ _ hS (fun _ => ?_)
      simp only [Act.put]
      clear hK K
      refine take_lawH 15 (some 10) (.bool true) rfl rfl (by kernel_rfl) (by kernel_rfl) (by kernel_rfl) (fun _ _ _ h => h) (Or.inl ⟨by rfl, fun w' hw' => by rfl⟩) hS ?_
      simp only [Act.put, List.setIfInBounds_toArray, List.set_cons_zero, List.set_cons_succ]
      refine wpAnyH_done (by kernel_rfl) ?_ _
      go_wp2_with fail
      go_meet
      exact ⟨hf, f, rfl, rfl, HV.out, HCR.out, HY.out, hS, ghf.out⟩
    · refine step_newC _ rfl (some 9) rfl 179 rfl _ zero_flt ?_
      intro x5 v9 b9 l9
      obtain ⟨hf, ehf⟩ : ∃ x, x = x1.heap.size := ⟨_, rfl⟩
      rw [← ehf] at v9 l9 ⊢
      have HV : Hid (FlV x5 hf f0) := ⟨FlA.of v9.1, v9.2⟩
      have lhf : Hid (hf < x5.heap.size) := l9
      have ghf : Hid (w2.heap.size ≤ hf) := by rw [ehf]; exact hS.size
      have hS : Below w2.heap.size w2 x5 := hS.trans (b9.mono hS.size)
      clear v9 b9 l9 ehf
      refine hK.out _ _ hS (fun _ => ?_)
      simp only [Act.put, List.setIfInBounds_toArray, List.set_cons_zero, List.set_cons_succ]
      clear hK K
      refine wpAnyH_ready (rs := [9]) (by kernel_rfl) (by simp) ?_
      refine AllReadyH.cons rfl (fun K hK => ?_) AllReadyH.nil
      refine ge.step_callW _ (by rfl) (some 21) rfl 137 #[.tmp 15, .tmp 20] #[36, 3] rfl (fun q w' => by rfl) #[pv, .int .i64 (n : Int)] (by simp only [List.map_toArray, List.map_cons, List.map_nil]; rfl) (fun v w' => ∃ f : Int × Bool × Value, v = .tuple #[fv f, .bool true] ∧ f.2.1 = true ∧ Byt w' f.2.2 (msk (some (true, mm))) ∧ Below x5.heap.size x5 w') ?_ ?_
      · refine (SA.out x5 (BB.out.trans (hS.mono BB.out.size))).mono ?_
        rintro e w' ⟨f, rfl, y⟩
        exact ⟨_, rfl, f, rfl, y⟩
      rintro _ x6 ⟨f, rfl, hcr, y, hb⟩
      have HCR : Hid (f.2.1 = true) := hcr
      have HY : Hid (Byt x6 f.2.2 (msk (some (true, mm)))) := y
      have HV : Hid (FlV x6 hf f0) := HV.out.below hb lhf.out
      have lhf : Hid (hf < x6.heap.size) := Nat.lt_of_lt_of_le lhf.out hb.size
      have hS : Below w2.heap.size w2 x6 := hS.trans (hb.mono hS.size)
      clear hcr y hb
      refine hK.out _ _ hS (fun _ => ?_)
      simp only [Act.put, List.setIfInBounds_toArray, List.set_cons_zero, List.set_cons_succ]
      clear hK K
      refine take_lawH 10 (some 11) (.tuple #[fv f, .bool true]) rfl rfl (by kernel_rfl) (by kernel_rfl) (by kernel_rfl) (fun _ _ _ h => h) (Or.inl ⟨by rfl, fun w' hw' => by rfl⟩) hS ?_
      simp only [Act.put, List.setIfInBounds_toArray, List.set_cons_zero, List.set_cons_succ]
      refine take_lawH 11 (some 22) (fv f) rfl rfl (by kernel_rfl) (by kernel_rfl) (by kernel_rfl) (fun _ _ _ h => h) (Or.inl ⟨by rfl, fun w' hw' => by rfl⟩) hS ?_
      simp only [Act.put, List.setIfInBounds_toArray, List.set_cons_zero, List.set_cons_succ]
      refine take_lawH 12 (some 23) (.bool true) rfl rfl (by kernel_rfl) (by kernel_rfl) (by kernel_rfl) (fun _ _ _ h => h) (Or.inl ⟨by rfl, fun w' hw' => by rfl⟩) hS ?_
      simp only [Act.put, List.setIfInBounds_toArray, List.set_cons_zero, List.set_cons_succ]
      refine wpAnyH_ready (rs := [14]) (by kernel_rfl) (by simp) ?_
      refine AllReadyH.cons rfl (fun K hK => ?_) AllReadyH.nil
      refine step_storeF _ rfl none rfl (.tmp 9) (.tmp 22) rfl hf f rfl rfl HV.out.2 (byt_one_cell HY.out) ?_
      intro x7 e9 v9 b9
      have HY : Hid (Byt x7 f.2.2 (msk (some (true, mm)))) := by rw [e9.out]; exact byt_flt HY.out HV.out.1 (by intro x e; cases e)
      have HV : Hid (FlV x7 hf f) := v9
      have hS : Below w2.heap.size w2 x7 := hS.trans (b9.mono ghf.out)
      clear v9 e9 b9
      refine hK.out _ _ hS (fun _ => ?_)
      simp only [Act.put]
      clear hK K
      refine take_lawH 15 (some 10) (.bool true) rfl rfl (by kernel_rfl) (by kernel_rfl) (by kernel_rfl) (fun _ _ _ h => h) (Or.inl ⟨by rfl, fun w' hw' => by rfl⟩) hS ?_
      simp only [Act.put, List.setIfInBounds_toArray, List.set_cons_zero, List.set_cons_succ]
      refine wpAnyH_done (by kernel_rfl) ?_ _
      go_wp2_with fail
      go_meet
      exact ⟨hf, f, rfl, rfl, HV.out, HCR.out, HY.out, hS, ghf.out⟩
  case rest =>
    obtain ⟨hf, f, rfl, rfl, V3, cr3, y3, B3, g3⟩ := hcut
    obtain ⟨fx, fc, fm⟩ := f
    have cr3' : fc = true := cr3
    subst cr3'
    have y3' : Byt wc fm (msk (some (true, mm))) := y3
    obtain ⟨mo, mc, rfl⟩ := byt_form y3'
    have HY : Hid (Byt wc (.slice mo (msk (some (true, mm))).length mc) (msk (some (true, mm)))) := y3'
    have HFV : Hid (FlV wc hf (fx, true, .slice mo (msk (some (true, mm))).length mc)) := V3
    have BB : Hid (Below w.heap.size w wc) := BB.out.trans (B3.mono BB.out.size)
    have HL : Hid (Lay (fun k => M k || decide (B ≤ k)) wc c r d q pv (.slice tq n tc) g N P S pl X) := HL.out.below B3
    have lw : Hid (B = h1 ∧ h1 < h2 ∧ h2 < hf ∧ hf < wc.heap.size) := ⟨l12.out.1, l12.out.2.1, by have a1 := l12.out; omega, V3.1.lt⟩
    have HV1 : Hid (Vr wc h1 (opc (opn ok1 ob op od 0) dv)) := HV1.out.below B3 (by have a1 := l12.out; omega)
    have HV2 : Hid (Vr wc h2 [.func (.func K1) #[] c1, .func (.func K2) #[] c2]) := HV2.out.below B3 (by have a1 := l12.out; omega)
    have HDe : Hid (Deed wc (.agg ([.func (.func K1) #[] c1, .func (.func K2) #[] c2] : List Value).toArray) (.slice (some ⟨d, off, none⟩) len cap) R) := HDe.out.below BB.out
    have SC : Hid (Calls Tryz.prog K2 (#[.slice (some ⟨d, off, none⟩) len cap, fv (fx, true, .slice mo (msk (some (true, mm))).length mc)] ++ c2) wc fun e w' => ∃ v, e = .returned v ∧ Byt w' v (R (some (true, mm))) ∧ Below wc.heap.size wc w') := by
      obtain ⟨k1, d1, k2, d2, ee, _, _, s1, s2⟩ := HDe.out
      simp at ee
      obtain ⟨⟨rfl, rfl⟩, rfl, rfl⟩ := ee
      exact s2 wc (fx, true, .slice mo (msk (some (true, mm))).length mc) (msk (some (true, mm))) (Below.refl _ _) HY.out
    have FF : Hid (Frm (fun k => M k || decide (B ≤ k)) w wc) := Frm.of_below BB.out
    have fk1 := HV2.out.cell 0 _ rfl
    have fk2 := HV2.out.cell 1 _ rfl
    have fcr := HFV.out.1.2.1
    have dd : Hid (d < wc.heap.size ∧ c < wc.heap.size) := ⟨HL.out.2.2.2.2.2.2.2.2.2.2.2.1, HL.out.2.2.2.2.2.2.2.2.2.1⟩
    have md : Hid (M d = true ∧ M c = true) := ⟨HSep.out.1.2.2.1, HSep.out.1.1⟩
    have nn : Hid (h1 ≠ d ∧ hf ≠ d ∧ h1 ≠ c ∧ hf ≠ c ∧ h1 ≠ hf) := by
      have a1 := HNE.out h1 (by have := lw.out; omega)
      have a2 := HNE.out hf (by have := lw.out; omega)
      exact ⟨fun e => a1.2.2.1 e.symm, fun e => a2.2.2.1 e.symm, fun e => a1.1 e.symm, fun e => a2.1 e.symm, by have := lw.out; omega⟩
    have mh : Hid ((M h1 || decide (B ≤ h1)) = true) := by
      show _ = true
      have : B ≤ h1 := by have := lw.out; omega
      simp [this]
    generalize R (some (true, mm)) = rs at *
    clear V3 cr3 y3 y3' B3 g3 HDe l12
    have t1 : (1 : Nat) = 1 := rfl
    go_wp2_with (first
      | (have q_t6 := t6; refine store_law1 _ h1 4 (.int .i64 4) rfl rfl (HV1.out.there1 4 (by show 4 < 5; omega)) (HV1.out.free 4 (by show 4 < 5; omega)) one_errno.2 rfl rfl ?_; intro w9 e_w9
         have g_w9 : w8.grownBy w9 (some h1) := by rw [e_w9.out]; exact keep_set _ _ _ _
         have HL : Hid (Lay (fun k => M k || decide (B ≤ k)) w9 c r d q pv (.slice tq n tc) g N P S pl (mkX (laid (xi X) off rs) (xp X) (xe X) (xs X) false (xt X))) := by
           obtain ⟨a1, a2, a3, a4, a5⟩ := HNE.out h1 (by have := lw.out; omega)
           exact HL.out.loc g_w9 mh.out a1 a2 a3 a4 a5
         have HV1 : Hid (Vr w9 h1 (opc (opn ok1 ob op od 4) dv)) := by
           have := HV1.out.set 4 (by show 4 < 5; omega) (.int .i64 4)
           rw [opc_set, ← e_w9.out] at this
           exact this
         have fcr := (World.cell?_of_block (w := w8) (w' := w9) (a := ⟨hf, 1, none⟩) (g_w9.block hf lw.out.2.2.2 (by simp; exact fun e => nn.out.2.2.2.2 e.symm))).trans fcr
         have lw : Hid (B = h1 ∧ h1 < h2 ∧ h2 < hf ∧ hf < w9.heap.size) := ⟨lw.out.1, lw.out.2.1, lw.out.2.2.1, Nat.lt_of_lt_of_le lw.out.2.2.2 g_w9.size⟩
         have FF : Hid (Frm (fun k => M k || decide (B ≤ k)) w w9) := FF.out.tr (Frm.grown g_w9 (fun k e => by injection e with e; subst e; exact mh.out))
         clear e_w9 g_w9 t6; have t7 : (1 : Nat) = 1 := rfl)
      | (have q_on := t5; refine store_law1 _ c 7 (.bool false) rfl rfl (HL.out.free 7 (by decide)).1 (HL.out.free 7 (by decide)).2 one_bool.2 rfl rfl ?_; intro w8 e_w8
         have g_w8 : w7.grownBy w8 (some c) := by rw [e_w8.out]; exact keep_set _ _ _ _
         have HL : Hid (Lay (fun k => M k || decide (B ≤ k)) w8 c r d q pv (.slice tq n tc) g N P S pl (mkX (laid (xi X) off rs) (xp X) (xe X) (xs X) false (xt X))) := by rw [e_w8.out]; exact HL.out.on false
         have HV1 : Hid (Vr w8 h1 (opc (opn ok1 ob op od 5) dv)) := HV1.out.kept g_w8 (by have := lw.out; omega) (by simp; exact nn.out.2.2.1)
         have fcr := (World.cell?_of_block (w := w7) (w' := w8) (a := ⟨hf, 1, none⟩) (g_w8.block hf lw.out.2.2.2 (by simp; exact nn.out.2.2.2.1))).trans fcr
         have lw : Hid (B = h1 ∧ h1 < h2 ∧ h2 < hf ∧ hf < w8.heap.size) := ⟨lw.out.1, lw.out.2.1, lw.out.2.2.1, Nat.lt_of_lt_of_le lw.out.2.2.2 g_w8.size⟩
         have FF : Hid (Frm (fun k => M k || decide (B ≤ k)) w w8) := FF.out.tr (Frm.grown g_w8 (fun k e => by injection e with e; subst e; simp [md.out.2]))
         clear e_w8 g_w8 t5; have t6 : (1 : Nat) = 1 := rfl)
      | (have q_t4 := t4; refine store_law1 _ h1 4 (.int .i64 5) rfl rfl (HV1.out.there1 4 (by show 4 < 5; omega)) (HV1.out.free 4 (by show 4 < 5; omega)) one_errno.2 rfl rfl ?_; intro w7 e_w7
         have g_w7 : w6.grownBy w7 (some h1) := by rw [e_w7.out]; exact keep_set _ _ _ _
         have HL : Hid (Lay (fun k => M k || decide (B ≤ k)) w7 c r d q pv (.slice tq n tc) g N P S pl (mkX (laid (xi X) off rs) (xp X) (xe X) (xs X) (xo X) (xt X))) := by
           obtain ⟨a1, a2, a3, a4, a5⟩ := HNE.out h1 (by have := lw.out; omega)
           exact HL.out.loc g_w7 mh.out a1 a2 a3 a4 a5
         have HV1 : Hid (Vr w7 h1 (opc (opn ok1 ob op od 5) dv)) := by
           have := HV1.out.set 4 (by show 4 < 5; omega) (.int .i64 5)
           rw [opc_set, ← e_w7.out] at this
           exact this
         have fcr := (World.cell?_of_block (w := w6) (w' := w7) (a := ⟨hf, 1, none⟩) (g_w7.block hf lw.out.2.2.2 (by simp; exact fun e => nn.out.2.2.2.2 e.symm))).trans fcr
         have lw : Hid (B = h1 ∧ h1 < h2 ∧ h2 < hf ∧ hf < w7.heap.size) := ⟨lw.out.1, lw.out.2.1, lw.out.2.2.1, Nat.lt_of_lt_of_le lw.out.2.2.2 g_w7.size⟩
         have FF : Hid (Frm (fun k => M k || decide (B ≤ k)) w w7) := FF.out.tr (Frm.grown g_w7 (fun k e => by injection e with e; subst e; exact mh.out))
         clear e_w7 g_w7 t4; have t5 : (1 : Nat) = 1 := rfl)
      | (have q_cp := t3; refine copy_lawN _ rfl (.tmp 25) (.tmp 30) rfl d off len cap _ rs rfl rfl Y5.out (fun j hj => HT5.out j (by omega)) ?_; intro w6 e_w6
         have e6 : w6 = w5.setCells d off (rs.map (Value.int .u8)) := by have := e_w6.out; rw [List.take_of_length_le (by rw [HR.out.1]; exact Nat.le_refl _)] at this; exact this
         have g_w6 : w5.grownBy w6 (some d) := by rw [e6]; exact keep_cells _ _ _ _
         have hA : Ar w6 d 0 .u8 (laid (xi X) off rs) := by rw [e6]; exact HL.out.2.2.2.2.1.1.layG off rs (by rw [HR.out.1]; exact HI.out.1)
         have HL : Hid (Lay (fun k => M k || decide (B ≤ k)) w6 c r d q pv (.slice tq n tc) g N P S pl (mkX (laid (xi X) off rs) (xp X) (xe X) (xs X) (xo X) (xt X))) := HL.out.img g_w6 _ hA (by rw [laid_len _ _ _ (by rw [HR.out.1]; exact HI.out.1)]; exact HL.out.2.2.2.2.1.2.1) (laid_all HL.out.2.2.2.2.1.2.2 HR.out.2 (by rw [HR.out.1]; exact HI.out.1))
         have HV1 : Hid (Vr w6 h1 (opc (opn ok1 ob op od 0) dv)) := HV1.out.kept g_w6 (by have := lw.out; omega) (by simp; exact nn.out.1)
         have fcr := (World.cell?_of_block (w := w5) (w' := w6) (a := ⟨hf, 1, none⟩) (g_w6.block hf lw.out.2.2.2 (by simp; exact nn.out.2.1))).trans fcr
         have lw : Hid (B = h1 ∧ h1 < h2 ∧ h2 < hf ∧ hf < w6.heap.size) := ⟨lw.out.1, lw.out.2.1, lw.out.2.2.1, Nat.lt_of_lt_of_le lw.out.2.2.2 g_w6.size⟩
         have FF : Hid (Frm (fun k => M k || decide (B ≤ k)) w w6) := FF.out.tr (Frm.grown g_w6 (fun k e => by injection e with e; subst e; simp [md.out.1]))
         clear e_w6 e6 g_w6 hA t3; have t4 : (1 : Nat) = 1 := rfl)
      | (have q_cl := t2; (with_reducible refine SC.out.mono ?_); rintro e w5 ⟨v5, rfl, y5, B5⟩; have Y5 : Hid (Byt w5 v5 rs) := y5
         have HL : Hid (Lay (fun k => M k || decide (B ≤ k)) w5 c r d q pv (.slice tq n tc) g N P S pl X) := HL.out.below B5
         have HT5 : Hid (w5.there d off len) := thereG HL.out.2.2.2.2.1.1 off len HI.out.1
         have HV1 : Hid (Vr w5 h1 (opc (opn ok1 ob op od 0) dv)) := HV1.out.below B5 (by have := lw.out; omega)
         have fcr := (B5.cell (p := ⟨hf, 1, none⟩) lw.out.2.2.2).trans fcr
         have lw : Hid (B = h1 ∧ h1 < h2 ∧ h2 < hf ∧ hf < w5.heap.size) := ⟨lw.out.1, lw.out.2.1, lw.out.2.2.1, Nat.lt_of_lt_of_le lw.out.2.2.2 B5.size⟩
         have FF : Hid (Frm (fun k => M k || decide (B ≤ k)) w w5) := FF.out.tr (Frm.of_below B5)
         clear y5 B5 t2; have t3 : (1 : Nat) = 1 := rfl)
      | (have q_ld := t1; refine load_lawS _ (by rfl) _ _ rfl (load_fault HFV.out.1) ?_; clear t1; have t2 : (1 : Nat) = 1 := rfl))
    have HL : Hid (Lay (fun k => M k || decide (B ≤ k)) w9.drew c r d q pv (.slice tq n tc) g N P S pl (mkX (laid (xi X) off rs) (xp X) (xe X) (xs X) false (xt X))) := HL.out.below (Below.refl _ _).drew
    have FF : Hid (Frm (fun k => M k || decide (B ≤ k)) w w9.drew) := FF.out
    refine wp_region_held_drew (S := fun w' => Vr w' h1 (opc (opn ok1 ob op od 4) dv)) (by kernel_rfl) (HV1.out.heap rfl) (fun hS => ?_)
    obtain ⟨z1, hx0⟩ : ∃ x, x = w9.drew := ⟨_, rfl⟩
    rw [← hx0] at hS HL FF ⊢
    clear hx0
    refine take_lawH 0 (some 45) (.pointer (some ⟨c, 0, none⟩)) rfl rfl (by kernel_rfl) (by kernel_rfl) (by kernel_rfl) (fun _ _ _ h => h) (Or.inl ⟨by rfl, fun w' hw' => by rfl⟩) hS ?_
    simp only [Act.put, List.setIfInBounds_toArray, List.set_cons_zero, List.set_cons_succ]
    refine take_lawH 1 (some 46) (.pointer (some ⟨c, 0, none⟩)) rfl rfl (by kernel_rfl) (by kernel_rfl) (by kernel_rfl) (fun _ _ _ h => h) (Or.inl ⟨by rfl, fun w' hw' => by rfl⟩) hS ?_
    simp only [Act.put, List.setIfInBounds_toArray, List.set_cons_zero, List.set_cons_succ]
    refine take_lawH 2 (some 47) (.pointer (some ⟨c, 0, none⟩)) rfl rfl (by kernel_rfl) (by kernel_rfl) (by kernel_rfl) (fun _ _ _ h => h) (Or.inl ⟨by rfl, fun w' hw' => by go_simp⟩) hS ?_
    simp only [Act.put, List.setIfInBounds_toArray, List.set_cons_zero, List.set_cons_succ]
    refine take_lawH 3 (some 48) (.pointer (some ⟨c, 10, none⟩)) rfl rfl (by kernel_rfl) (by kernel_rfl) (by kernel_rfl) (fun _ _ _ h => h) (Or.inl ⟨by rfl, fun w' hw' => by go_simp⟩) hS ?_
    simp only [Act.put, List.setIfInBounds_toArray, List.set_cons_zero, List.set_cons_succ]
    refine take_lawH 5 (some 50) (.agg (opc (opn ok1 ob op od 4) dv).toArray) rfl rfl (by kernel_rfl) (by kernel_rfl) (by kernel_rfl) (fun _ _ _ h => h) (Or.inl ⟨by rfl, fun w' hw' => by exact exec_loadN 197 (.tmp 5) rfl _ rfl _ _ (load_cells rowy_op hw'.1)⟩) hS ?_
    simp only [Act.put, List.setIfInBounds_toArray, List.set_cons_zero, List.set_cons_succ]
    refine wpAnyH_ready (rs := [4, 6]) (by kernel_rfl) (by simp) ?_
    refine AllReadyH.cons rfl (fun K hK => ?_) (AllReadyH.cons rfl (fun K hK => ?_) AllReadyH.nil)
    · refine step_load _ rfl (some 49) rfl (.tmp 48) 105 rfl _ (.slice tq n tc) rfl (load_one one_oprs HL.out.cells.2.2.2.2) ?_
      refine hK.out _ _ hS (fun _ => ?_)
      simp only [Act.put, List.setIfInBounds_toArray, List.set_cons_zero, List.set_cons_succ]
      clear hK K
      refine wpAnyH_ready (rs := [6]) (by kernel_rfl) (by simp) ?_
      refine AllReadyH.cons rfl (fun K hK => ?_) AllReadyH.nil
      refine step_one _ rfl (some 51) rfl (.tmp 50) 105 197 rfl (opc (opn ok1 ob op od 4) dv) rfl (fun w => build_op _ _ _ _ _ w) ?_
      intro z2 rw9 b9
      obtain ⟨h9, e9⟩ : ∃ x, x = z1.heap.size := ⟨_, rfl⟩
      rw [← e9] at rw9 ⊢
      have RW : Hid (Rws z2 (.slice (some ⟨h9, 0, none⟩) 1 1) 5 [opc (opn ok1 ob op od 4) dv]) := rw9
      have HL : Hid (Lay (fun k => M k || decide (B ≤ k)) z2 c r d q pv (.slice tq n tc) g N P S pl (mkX (laid (xi X) off rs) (xp X) (xe X) (xs X) false (xt X))) := HL.out.below b9
      have hS : Vr z2 h1 (opc (opn ok1 ob op od 4) dv) := hS.below b9 (range_lt hS.1 (by show 0 < 5; omega))
      have FF : Hid (Frm (fun k => M k || decide (B ≤ k)) w z2) := FF.out.tr (Frm.of_below b9)
      clear rw9 b9 e9
      refine hK.out _ _ hS (fun _ => ?_)
      simp only [Act.put, List.setIfInBounds_toArray, List.set_cons_zero, List.set_cons_succ]
      clear hK K
      refine wpAnyH_ready (rs := [7]) (by kernel_rfl) (by simp) ?_
      refine AllReadyH.cons rfl (fun K hK => ?_) AllReadyH.nil
      obtain ⟨dvs, tO, tB, tM⟩ := HL.out.2.2.2.2.2.2.2.1
      have tO' : OwR 0 z2 (.slice tq n tc) 197 5 (opcs (xt X) dvs) := tO
      have hln : (opcs (xt X) dvs).length = n := by rw [opcs_len]; exact HN.out
      refine step_appT _ rfl (some 52) rfl (.tmp 49) (.tmp 51) 105 197 rfl Tryz.underlying105 _ 5 56 info_op rfl (by decide) _ _ (opcs (xt X) dvs) [opc (opn ok1 ob op od 4) dv] rfl rfl tO' RW.out (opc_one _ _ hdo) (by rw [hln]; simp; omega) (by rw [hln]; simp; omega) (by simp) ?_
      intro tv9 z3 o9 g9 f9
      have HG : Hid (z2.grownBy z3 (Value.slice tq n tc).ownBlock ∧ (tv9.ownBlock = (Value.slice tq n tc).ownBlock ∨ ∃ k, tv9.ownBlock = some k ∧ z2.heap.size ≤ k)) := ⟨g9, f9⟩
      have HO9 : Hid (OwR 0 z3 tv9 197 5 (opcs (xt X) dvs ++ [opc (opn ok1 ob op od 4) dv]) ∧ ∀ i, i < (xt X).length → Byt (hid (fun k => M k || decide (B ≤ k)) z2) (dvs i) (gO (xt X) i).2.2.2.1) := ⟨o9, tB⟩
      have a5 := (HNE.out h1 (by have := lw.out; omega)).2.2.2.2
      have hne1 : some h1 ≠ (Value.slice tq n tc).ownBlock := fun e => a5 h1 e.symm rfl
      have hne2 : some c ≠ (Value.slice tq n tc).ownBlock := fun e => (HL.out.2.2.1 c e.symm).1 rfl
      have HC9 : Hid ((z3.cell? ⟨c, 10, none⟩).isSome = true ∧ z3.frozen? ⟨c, 10, none⟩ = false) := by
        have b9 := g9.block c HL.out.2.2.2.2.2.2.2.2.2.1 hne2
        show _ ∧ _
        rw [World.cell?_of_block (w := z2) (w' := z3) (a := ⟨c, 10, none⟩) b9, World.frozen?_of_block (w := z2) (w' := z3) (a := ⟨c, 10, none⟩) b9]
        exact HL.out.free 10 (by decide)
      have hS : Vr z3 h1 (opc (opn ok1 ob op od 4) dv) := hS.kept g9 (range_lt hS.1 (by show 0 < 5; omega)) hne1
      clear tO tB tM tO' hln o9 g9 f9 a5 hne1 hne2
      refine hK.out _ _ hS (fun _ => ?_)
      simp only [Act.put, List.setIfInBounds_toArray, List.set_cons_zero, List.set_cons_succ]
      clear hK K
      refine take_lawH 8 (some 53) (.pointer (some ⟨c, 0, none⟩)) rfl rfl (by kernel_rfl) (by kernel_rfl) (by kernel_rfl) (fun _ _ _ h => h) (Or.inl ⟨by rfl, fun w' hw' => by go_simp⟩) hS ?_
      simp only [Act.put, List.setIfInBounds_toArray, List.set_cons_zero, List.set_cons_succ]
      refine take_lawH 9 (some 54) (.pointer (some ⟨c, 10, none⟩)) rfl rfl (by kernel_rfl) (by kernel_rfl) (by kernel_rfl) (fun _ _ _ h => h) (Or.inl ⟨by rfl, fun w' hw' => by go_simp⟩) hS ?_
      simp only [Act.put, List.setIfInBounds_toArray, List.set_cons_zero, List.set_cons_succ]
      refine wpAnyH_ready (rs := [10]) (by kernel_rfl) (by simp) ?_
      refine AllReadyH.cons rfl (fun K hK => ?_) AllReadyH.nil
      refine step_store1 _ rfl none rfl (.tmp 54) (.tmp 52) 105 rfl c 10 tv9 rfl rfl HC9.out.1 HC9.out.2 one_oprs.2 (own_one HO9.out.1) (own_cells HO9.out.1) ?_
      intro z4 e9
      have hS : Vr z4 h1 (opc (opn ok1 ob op od 4) dv) := by rw [e9.out]; exact hS.other _ nn.out.2.2.1
      have HT := HL.out.trc (opn ok1 ob op od 4) dv tv9 HG.out.1 HG.out.2 (HD.out.below FF.out.hid0) dvs HO9.out.2 HO9.out.1
      rw [← e9.out] at HT
      have HT' : Hid (_ ∧ _ ∧ _ ∧ _) := HT
      clear HT e9
      refine hK.out _ _ hS (fun _ => ?_)
      simp only [Act.put]
      clear hK K
      refine wpAnyH_done (by kernel_rfl) ?_ _
      have f4 := hS.cell 4 _ rfl
      go_wp2
      go_ret
      have PE := perf_end HB.out HMlt.out FF.out HT'.out.2.1 HT'.out.1 HT'.out.2.2.1 HT'.out.2.2.2 HSep.out
      exact ⟨_, tv9, rfl, by have := PE.1; exact this, PE.2⟩
    · refine step_one _ rfl (some 51) rfl (.tmp 50) 105 197 rfl (opc (opn ok1 ob op od 4) dv) rfl (fun w => build_op _ _ _ _ _ w) ?_
      intro z5 rw9 b9
      obtain ⟨h9, e9⟩ : ∃ x, x = z1.heap.size := ⟨_, rfl⟩
      rw [← e9] at rw9 ⊢
      have RW : Hid (Rws z5 (.slice (some ⟨h9, 0, none⟩) 1 1) 5 [opc (opn ok1 ob op od 4) dv]) := rw9
      have HL : Hid (Lay (fun k => M k || decide (B ≤ k)) z5 c r d q pv (.slice tq n tc) g N P S pl (mkX (laid (xi X) off rs) (xp X) (xe X) (xs X) false (xt X))) := HL.out.below b9
      have hS : Vr z5 h1 (opc (opn ok1 ob op od 4) dv) := hS.below b9 (range_lt hS.1 (by show 0 < 5; omega))
      have FF : Hid (Frm (fun k => M k || decide (B ≤ k)) w z5) := FF.out.tr (Frm.of_below b9)
      clear rw9 b9 e9
      refine hK.out _ _ hS (fun _ => ?_)
      simp only [Act.put, List.setIfInBounds_toArray, List.set_cons_zero, List.set_cons_succ]
      clear hK K
      refine wpAnyH_ready (rs := [4]) (by kernel_rfl) (by simp) ?_
      refine AllReadyH.cons rfl (fun K hK => ?_) AllReadyH.nil
      refine step_load _ rfl (some 49) rfl (.tmp 48) 105 rfl _ (.slice tq n tc) rfl (load_one one_oprs HL.out.cells.2.2.2.2) ?_
      refine hK.out _ _ hS (fun _ => ?_)
      simp only [Act.put, List.setIfInBounds_toArray, List.set_cons_zero, List.set_cons_succ]
      clear hK K
      refine wpAnyH_ready (rs := [7]) (by kernel_rfl) (by simp) ?_
      refine AllReadyH.cons rfl (fun K hK => ?_) AllReadyH.nil
      obtain ⟨dvs, tO, tB, tM⟩ := HL.out.2.2.2.2.2.2.2.1
      have tO' : OwR 0 z5 (.slice tq n tc) 197 5 (opcs (xt X) dvs) := tO
      have hln : (opcs (xt X) dvs).length = n := by rw [opcs_len]; exact HN.out
      refine step_appT _ rfl (some 52) rfl (.tmp 49) (.tmp 51) 105 197 rfl Tryz.underlying105 _ 5 56 info_op rfl (by decide) _ _ (opcs (xt X) dvs) [opc (opn ok1 ob op od 4) dv] rfl rfl tO' RW.out (opc_one _ _ hdo) (by rw [hln]; simp; omega) (by rw [hln]; simp; omega) (by simp) ?_
      intro tv9 z6 o9 g9 f9
      have HG : Hid (z5.grownBy z6 (Value.slice tq n tc).ownBlock ∧ (tv9.ownBlock = (Value.slice tq n tc).ownBlock ∨ ∃ k, tv9.ownBlock = some k ∧ z5.heap.size ≤ k)) := ⟨g9, f9⟩
      have HO9 : Hid (OwR 0 z6 tv9 197 5 (opcs (xt X) dvs ++ [opc (opn ok1 ob op od 4) dv]) ∧ ∀ i, i < (xt X).length → Byt (hid (fun k => M k || decide (B ≤ k)) z5) (dvs i) (gO (xt X) i).2.2.2.1) := ⟨o9, tB⟩
      have a5 := (HNE.out h1 (by have := lw.out; omega)).2.2.2.2
      have hne1 : some h1 ≠ (Value.slice tq n tc).ownBlock := fun e => a5 h1 e.symm rfl
      have hne2 : some c ≠ (Value.slice tq n tc).ownBlock := fun e => (HL.out.2.2.1 c e.symm).1 rfl
      have HC9 : Hid ((z6.cell? ⟨c, 10, none⟩).isSome = true ∧ z6.frozen? ⟨c, 10, none⟩ = false) := by
        have b9 := g9.block c HL.out.2.2.2.2.2.2.2.2.2.1 hne2
        show _ ∧ _
        rw [World.cell?_of_block (w := z5) (w' := z6) (a := ⟨c, 10, none⟩) b9, World.frozen?_of_block (w := z5) (w' := z6) (a := ⟨c, 10, none⟩) b9]
        exact HL.out.free 10 (by decide)
      have hS : Vr z6 h1 (opc (opn ok1 ob op od 4) dv) := hS.kept g9 (range_lt hS.1 (by show 0 < 5; omega)) hne1
      clear tO tB tM tO' hln o9 g9 f9 a5 hne1 hne2
      refine hK.out _ _ hS (fun _ => ?_)
      simp only [Act.put, List.setIfInBounds_toArray, List.set_cons_zero, List.set_cons_succ]
      clear hK K
      refine take_lawH 8 (some 53) (.pointer (some ⟨c, 0, none⟩)) rfl rfl (by kernel_rfl) (by kernel_rfl) (by kernel_rfl) (fun _ _ _ h => h) (Or.inl ⟨by rfl, fun w' hw' => by go_simp⟩) hS ?_
      simp only [Act.put, List.setIfInBounds_toArray, List.set_cons_zero, List.set_cons_succ]
      refine take_lawH 9 (some 54) (.pointer (some ⟨c, 10, none⟩)) rfl rfl (by kernel_rfl) (by kernel_rfl) (by kernel_rfl) (fun _ _ _ h => h) (Or.inl ⟨by rfl, fun w' hw' => by go_simp⟩) hS ?_
      simp only [Act.put, List.setIfInBounds_toArray, List.set_cons_zero, List.set_cons_succ]
      refine wpAnyH_ready (rs := [10]) (by kernel_rfl) (by simp) ?_
      refine AllReadyH.cons rfl (fun K hK => ?_) AllReadyH.nil
      refine step_store1 _ rfl none rfl (.tmp 54) (.tmp 52) 105 rfl c 10 tv9 rfl rfl HC9.out.1 HC9.out.2 one_oprs.2 (own_one HO9.out.1) (own_cells HO9.out.1) ?_
      intro z7 e9
      have hS : Vr z7 h1 (opc (opn ok1 ob op od 4) dv) := by rw [e9.out]; exact hS.other _ nn.out.2.2.1
      have HT := HL.out.trc (opn ok1 ob op od 4) dv tv9 HG.out.1 HG.out.2 (HD.out.below FF.out.hid0) dvs HO9.out.2 HO9.out.1
      rw [← e9.out] at HT
      have HT' : Hid (_ ∧ _ ∧ _ ∧ _) := HT
      clear HT e9
      refine hK.out _ _ hS (fun _ => ?_)
      simp only [Act.put]
      clear hK K
      refine wpAnyH_done (by kernel_rfl) ?_ _
      have f4 := hS.cell 4 _ rfl
      go_wp2
      go_ret
      have PE := perf_end HB.out HMlt.out FF.out HT'.out.2.1 HT'.out.1 HT'.out.2.2.1 HT'.out.2.2.2 HSep.out
      exact ⟨_, tv9, rfl, by have := PE.1; exact this, PE.2⟩
end
end Go.Proofs.YtmbgokmomkmgcaaGreatDoor.na
