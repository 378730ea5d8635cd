/- What the reference's round and mixed answer. No claim of its own. -/
import Derived.Test.YtjiddmgnkldmkaaRExp
import Derived.Test.YtjiddmgnkldmkaaFTurn
import Derived.Test.YtjiddmgnkldmkaaAMix
import Derived.Test.YtjiddmgnkldmkaaAWord
namespace Go.Proofs.Ytjiddmgnkldmkaa
open Go.RowKit

/-- a round's first words -/
def ckr (key : List Int) (r : Nat) : Nat → List Int
  | 0 => []
  | m + 1 => ckr key r m ++ wd key (4 * r + m)
theorem ckr_end (key : List Int) (r : Nat) : ckr key r 4 = rk key r := by simp [ckr, rk]
theorem ckr_len (key : List Int) (hk : key.length = 32) (ha : AllB key) (r m : Nat) : (ckr key r m).length = 4 * m := by
  induction m with
  | zero => rfl
  | succ m ih => rw [ckr, List.length_append, ih, (wd_wd key hk ha _).1]; omega

set_option maxRecDepth 20000 in
set_option maxHeartbeats 4000000 in
theorem rround_any (v : Value) (key : List Int) (r : Nat) (w : World) (hd : Wds w v key) (hkl : key.length = 32) (hka : AllB key) (hr : r ≤ 14) :
    Calls Try.prog 40 #[v, .int .i64 r] w fun e w' => ∃ v', e = .returned v' ∧ Byt w' v' (rk key r) ∧ Below w.heap.size w w' := by
  obtain ⟨g, cap, rfl, hg1, hg2, hg3⟩ := hd
  have HD : Hid (∀ t, t < 60 → ∃ u, w.cell? ⟨g, t, none⟩ = some u ∧ Byt w u (wd key t)) := hg3
  have HL : Hid (∀ m, (ckr key r m).length = 4 * m) := ckr_len key hkl hka r
  have HE : Hid (ckr key r 4 = rk key r ∧ AllB (rk key r)) := ⟨ckr_end key r, (rk_blk key hkl hka r).2⟩
  have HW : Hid (∀ t, (wd key t).length = 4) := fun t => (wd_wd key hkl hka t).1
  have r0 : (0 : Int) ≤ (r : Int) := by omega
  have e1 : IntKind.i64.wrap (4 * (r : Int)) = 4 * (r : Int) := by rw [IntKind.wrap_i64]; omega
  have e2 : IntKind.i64.wrap (4 * (r : Int) + 4) = 4 * (r : Int) + 4 := by rw [IntKind.wrap_i64]; omega
  generalize rk key r = zs at *
  clear hg3 hkl hka
  go_enter Try.func40, Try.ntmps40
  go_wp2
  go_loopw [5, 6] (fun v i wr => ∃ m : Nat, m ≤ 4 ∧ i = .int .i64 (4 * (r : Int) + (m : Int)) ∧ Own w.heap.size wr v (ckr key r m) ∧ Below w.heap.size w wr) (fun _ i _ => 4 * r + 4 - (intOf i).toNat)
  case atStart => exact ⟨0, Nat.zero_le _, by simp, Own.empty w (Nat.le_refl _), (Below.refl _ _).alloc (Nat.le_refl _) _⟩
  case round =>
    obtain ⟨m, hm, rfl, hown, hbel⟩ := hrel
    have hsz := hbel.size
    obtain ⟨j, hj⟩ : ∃ j, j = 4 * r + m := ⟨_, rfl⟩
    have ej : 4 * (r : Int) + (m : Int) = (j : Int) := by omega
    have j0 : (0 : Int) ≤ (j : Int) := by omega
    have q1 : IntKind.i64.wrap (j : Int) = j := by rw [IntKind.wrap_i64]; omega
    by_cases hlt : m < 4
    · have j1 : (j : Int) < 4 * (r : Int) + 4 := by omega
      have j60 : (j : Int) < 60 := by omega
      obtain ⟨u, hu1, hu2⟩ := HD.out j (by omega)
      have lg : g < w.heap.size := World.block_lt_of_cell? w _ hu1
      have cu : wr.cell? ⟨g, j, none⟩ = some u := (hbel.cell lg).trans hu1
      have YU : Hid (Byt wr u (wd key j)) := hu2.below hbel
      have SN : Hid (ckr key r (m + 1) = ckr key r m ++ wd key j) := by show _ = _; rw [hj]; rfl
      have HO : Hid (Own w.heap.size wr u5 (ckr key r m)) := hown
      have L1 : Hid ((ckr key r m).length ≤ 1099511627776) := by show _ ≤ _; rw [HL.out]; omega
      have L2 : Hid ((wd key j).length ≤ 1099511627776) := by show _ ≤ _; rw [HW.out]; omega
      have HJ : Hid (4 * (r : Int) + (m : Int) = (j : Int)) := ej
      clear hown hu1 hu2 hj
      rw [ej]
      clear ej
      go_wp2_with (at_builtin; refine pushs_lawG _ rfl (.tmp 17) (.tmp 21) rfl w.heap.size hsz _ _ _ _ rfl rfl HO.out YU.out L1.out L2.out ?_; intro v1 w1 o1 b1)
      rw [← SN.out] at o1
      go_roundw
      case rel => exact ⟨m + 1, by omega, by have := HJ.out; congr 1; omega, o1, hbel.trans b1⟩
      case measure => simp [intOf]; have := HJ.out; omega
    · have hm4 : m = 4 := by omega
      subst hm4
      have jn : ¬ ((j : Int) < 4 * (r : Int) + 4) := by omega
      rw [HE.out.1] at hown
      rw [ej]
      clear ej hj
      go_wp2
      go_ret
      exact ⟨_, rfl, hown.byt HE.out.2, hbel⟩

theorem exec_idxB {ev : Operand → Value} {o : Oper} (x y : Operand) (hop : o.op = Op.indexAddr 22 x y) (b off n cap i : Nat) (I : Int) (hx : ev x = .slice (some ⟨b, off, none⟩) n cap) (hy : ev y = .int .i64 I) (hI : I = (i : Int)) (hi : i < n) (w : World) : (execOp ev o).run Try.prog w = .ok (.value (.pointer (some ⟨b, off + i, none⟩))) w := by
  subst hI
  have hr : (Instr.indexAt 22 (.slice (some ⟨b, off, none⟩) n cap) (.int .i64 (i : Int))).run Try.prog w = .ok (.pointer (some ⟨b, off + i, none⟩)) w := by
    rw [run_indexAt_slice _ _ _ _ _ _ _ und_bytes, if_pos (by omega), elem_bytes, run_size_u8]
    simp [Result.andThen, Addr.add]
  unfold execOp
  simp only [hop, hx, hy, Sem.run_bind, Sem.run_pure, Result.andThen_ok, hr]
theorem exec_get {ev : Operand → Value} {o : Oper} (x : Operand) (hop : o.op = Op.load 5 x) (b p : Nat) (c : Int) (hx : ev x = .pointer (some ⟨b, p, none⟩)) (w : World) (h : w.cell? ⟨b, p, none⟩ = some (.int .u8 c)) : (execOp ev o).run Try.prog w = .ok (.value (.int .u8 c)) w := by
  unfold execOp
  simp only [hop, hx, Instr.loadAt, Instr.sureAddr, Sem.run_bind, Sem.run_pure, Result.andThen_ok, run_load1 w b p 5 .u8 c Try.underlying5 h]
theorem exec_loadR {ev : Operand → Value} {o : Oper} (t : TypeId) (x : Operand) (hop : o.op = Op.load t x) (p : Value) (hx : ev x = p) (v : Value) (w : World) (hr : (Instr.loadAt t p).run Try.prog w = .ok v w) : (execOp ev o).run Try.prog w = .ok (.value v) w := by
  unfold execOp
  simp only [hop, hx, Sem.run_bind, Sem.run_pure, Result.andThen_ok, hr]

/-- the first k columns, mixed -/
def ckm (ms : List Int) (k : Nat) : List Int := ms.take (4 * k)
theorem ckm_snoc (ms : List Int) (k : Nat) : ckm ms (k + 1) = ckm ms k ++ cut4 ms k := by
  unfold ckm cut4
  rw [List.drop_take, Nat.add_sub_cancel_left, show 4 * (k + 1) = 4 * k + 4 by omega, List.take_add]

set_option linter.unusedSimpArgs false in
set_option maxRecDepth 20000 in
set_option maxHeartbeats 8000000 in
theorem rmixed_any (v : Value) (xs : List Int) (ws : List Nat) (w : World) (hv : Byt w v xs) (hl : xs.length = 16) (hw : Col ws) :
    Calls Try.prog 43 #[v, .agg (ints .u8 (cI ws))] w fun e w' => ∃ v', e = .returned v' ∧ Byt w' v' (mixb xs ws) ∧ Below w.heap.size w w' := by
  have hxa := hv.all
  obtain ⟨ao, ca, rfl, ha1, ha2, -, -, ha5⟩ := hv
  obtain ⟨bb, bo, rfl, hcell⟩ := ha5 (by omega)
  have HC : Hid (∀ t, t < 16 → w.cell? ⟨bb, bo + t, none⟩ = some (.int .u8 (gb xs t))) := fun t ht => hcell t (by omega)
  have hbw : bb < w.heap.size := World.block_lt_of_cell? w _ (hcell 0 (by omega))
  have WL : Hid ((cI ws).length = 4) := by show _ = _; rw [cI_len]; exact hw.1
  have HB16 := mixb_blk xs ws hw
  have MB : Hid ((mixb xs ws).length = 16 ∧ AllB (mixb xs ws)) := ⟨HB16.1, HB16.2⟩
  have HTn0 : Hid (∀ k, k < 4 → ∀ w0, Calls Try.prog 64 #[.agg (ints .u8 (cut4 xs k)), .agg (ints .u8 (cI ws))] w0 fun e w' => e = .returned (.agg (ints .u8 (cut4 (mixb xs ws) k))) ∧ Below w0.heap.size w0 w') := fun k hk w0 => by
    have := turned_any (colOf xs k) ws w0 (colOf_col xs k hxa) hw
    rw [trn_cut xs ws k hk hw, ← cut4_col xs k ⟨hl, hxa⟩ hk] at this
    exact this
  have XL : Hid (xs.length = 16) := hl
  rw [hl] at ha1 ⊢
  generalize mixb xs ws = ms at *
  generalize cI ws = wl at *
  clear hcell ha5 hl HB16 hw hxa
  go_enter Try.func43, Try.ntmps43
  go_wp2_with (refine box_lawF _ rfl (.tmp 1) 48 rfl .u8 wl rfl ?_; intro w1 A1 B1 s1; have HA1 : Hid (Ar w1 w.heap.size 0 .u8 wl) := A1; clear A1)
  have z1 := B1.size
  go_loopw [5, 6] (fun v i wr => ∃ k : Nat, k ≤ 4 ∧ i = .int .i64 k ∧ Own w1.heap.size wr v (ckm ms k) ∧ Below w1.heap.size w1 wr) (fun _ i _ => 4 - (intOf i).toNat)
  case atStart => exact ⟨0, Nat.zero_le _, rfl, Own.empty w1 (Nat.le_refl _), (Below.refl _ _).alloc (Nat.le_refl _) _⟩
  case round =>
    obtain ⟨k, hk, rfl, hown, hbel⟩ := hrel
    have hsz := hbel.size
    have k0 : (0 : Int) ≤ (k : Int) := by omega
    have q1 : IntKind.i64.wrap (k : Int) = k := by rw [IntKind.wrap_i64]; omega
    by_cases hlt : k < 4
    · have k1 : (k : Int) < 4 := by omega
      have p0 : IntKind.i64.wrap (4 * (k : Int)) = 4 * (k : Int) := by rw [IntKind.wrap_i64]; omega
      have p1 : IntKind.i64.wrap (4 * (k : Int) + 1) = 4 * (k : Int) + 1 := by rw [IntKind.wrap_i64]; omega
      have p2 : IntKind.i64.wrap (4 * (k : Int) + 2) = 4 * (k : Int) + 2 := by rw [IntKind.wrap_i64]; omega
      have p3 : IntKind.i64.wrap (4 * (k : Int) + 3) = 4 * (k : Int) + 3 := by rw [IntKind.wrap_i64]; omega
      have hbr : bb < wr.heap.size := by omega
      have cr : ∀ t, t < 16 → ∀ w', Below wr.heap.size wr w' → w'.cell? ⟨bb, bo + t, none⟩ = some (.int .u8 (gb xs t)) := fun t ht w' h => by
        rw [h.cell hbr, hbel.cell (show bb < w1.heap.size by omega), B1.cell hbw]
        exact HC.out t ht
      have C0 : Hid (∀ w', Below wr.heap.size wr w' → w'.cell? ⟨bb, bo + 4 * k, none⟩ = some (.int .u8 (gb xs (4 * k)))) := cr (4 * k) (by omega)
      have C1 : Hid (∀ w', Below wr.heap.size wr w' → w'.cell? ⟨bb, bo + (4 * k + 1), none⟩ = some (.int .u8 (gb xs (4 * k + 1)))) := cr (4 * k + 1) (by omega)
      have C2 : Hid (∀ w', Below wr.heap.size wr w' → w'.cell? ⟨bb, bo + (4 * k + 2), none⟩ = some (.int .u8 (gb xs (4 * k + 2)))) := cr (4 * k + 2) (by omega)
      have C3 : Hid (∀ w', Below wr.heap.size wr w' → w'.cell? ⟨bb, bo + (4 * k + 3), none⟩ = some (.int .u8 (gb xs (4 * k + 3)))) := cr (4 * k + 3) (by omega)
      have ec : cut4 xs k = [gb xs (4 * k), gb xs (4 * k + 1), gb xs (4 * k + 2), gb xs (4 * k + 3)] := by
        have hc := cut4_len xs k (by rw [XL.out]; omega)
        refine ext_gb (by rw [hc]; rfl) fun t ht => ?_
        rw [hc] at ht
        rw [cut4_gb _ _ _ ht]
        match t, ht with
        | 0, _ => rfl
        | 1, _ => rfl
        | 2, _ => rfl
        | 3, _ => rfl
      have HTn : Hid (∀ w0, Calls Try.prog 64 #[.agg (ints .u8 [gb xs (4 * k), gb xs (4 * k + 1), gb xs (4 * k + 2), gb xs (4 * k + 3)]), .agg (ints .u8 wl)] w0 fun e w' => e = .returned (.agg (ints .u8 (cut4 ms k))) ∧ Below w0.heap.size w0 w') := by
        have := HTn0.out k hlt
        rw [ec] at this
        exact this
      have YL : Hid ((cut4 ms k).length = 4) := cut4_len ms k (by rw [MB.out.1]; omega)
      have YA : Hid (AllB (cut4 ms k)) := cut4_all ms k MB.out.2
      have SN : Hid (ckm ms (k + 1) = ckm ms k ++ cut4 ms k) := ckm_snoc ms k
      have RW : Hid (∀ w', Below wr.heap.size wr w' → (Instr.loadAt 48 (.pointer (some ⟨w.heap.size, 0, none⟩))).run Try.prog w' = .ok (.agg (ints .u8 wl)) w') := fun w' h => by
        have hA := (HA1.out.below hbel s1).below h (Nat.lt_of_lt_of_le s1 hsz)
        have := run_loadVar_mid (P := Try.prog) w' w.heap.size 0 48 _ _ hA.1 Try.underlying48 rfl (by rw [i_arr4]; simp [WL.out])
        simp only [Instr.loadAt, Instr.sureAddr, Sem.run_bind, Sem.run_pure, Result.andThen_ok, this]
        rfl
      have HO : Hid (Own w1.heap.size wr u5 (ckm ms k)) := hown
      have LN : Hid ((ckm ms k).length ≤ 1099511627776) := by show _ ≤ _; unfold ckm; rw [List.length_take, MB.out.1]; omega
      have hg4 := four_gb (cut4 ms k) YL.out
      clear hown cr ec
      generalize cut4 ms k = yl at *
      generalize gb xs (4 * k) = c0 at *
      generalize gb xs (4 * k + 1) = c1 at *
      generalize gb xs (4 * k + 2) = c2 at *
      generalize gb xs (4 * k + 3) = c3 at *
      have HG4 : Hid (yl = [gb yl 0, gb yl 1, gb yl 2, gb yl 3]) := hg4
      clear hg4
      go_wp2
      go_cut [7] (fun r7 wc => ∃ c : Nat, r7 = .pointer (some ⟨c, 0, none⟩) ∧ wr.heap.size ≤ c ∧ Ar wc c 0 .u8 yl ∧ Below wr.heap.size wr wc)
      case first =>
        refine wp_region_held_drew (S := fun w' => Below wr.heap.size wr w') (by kernel_rfl) (Below.refl _ _).drew (fun hS => ?_)
        refine take_lawH 0 (some 13) (.slice (some ⟨bb, bo, none⟩) 16 ca) rfl rfl (by kernel_rfl) (by kernel_rfl) (by kernel_rfl) (fun _ _ _ h => h) (Or.inl ⟨by rfl, fun w' hw' => by rfl⟩) hS ?_
        simp only [Act.put, List.setIfInBounds_toArray, List.set_cons_zero, List.set_cons_succ]
        refine take_lawH 1 (some 14) (.int .i64 (k : Int)) rfl rfl (by kernel_rfl) (by kernel_rfl) (by kernel_rfl) (fun _ _ _ h => h) (Or.inl ⟨by rfl, fun w' hw' => by rfl⟩) hS ?_
        simp only [Act.put, List.setIfInBounds_toArray, List.set_cons_zero, List.set_cons_succ]
        refine take_lawH 2 (some 15) (.int .i64 (4 * (k : Int))) rfl rfl (by kernel_rfl) (by kernel_rfl) (by kernel_rfl) (fun _ _ _ h => h) (Or.inl ⟨by rfl, fun w' hw' => by go_simp⟩) hS ?_
        simp only [Act.put, List.setIfInBounds_toArray, List.set_cons_zero, List.set_cons_succ]
        refine take_lawH 3 (some 16) (.pointer (some ⟨bb, bo + 4 * k, none⟩)) rfl rfl (by kernel_rfl) (by kernel_rfl) (by kernel_rfl) (fun _ _ _ h => h) (Or.inl ⟨by rfl, fun w' hw' => by exact exec_idxB (.tmp 13) (.tmp 15) rfl bb bo 16 ca (4 * k) _ rfl rfl (by omega) (by omega) w'⟩) hS ?_
        simp only [Act.put, List.setIfInBounds_toArray, List.set_cons_zero, List.set_cons_succ]
        refine take_lawH 4 (some 17) (.int .u8 c0) rfl rfl (by kernel_rfl) (by kernel_rfl) (by kernel_rfl) (fun _ _ _ h => h) (Or.inl ⟨by rfl, fun w' hw' => by exact exec_get (.tmp 16) rfl bb (bo + 4 * k) c0 rfl w' (C0.out w' hw')⟩) hS ?_
        simp only [Act.put, List.setIfInBounds_toArray, List.set_cons_zero, List.set_cons_succ]
        refine take_lawH 5 (some 18) (.slice (some ⟨bb, bo, none⟩) 16 ca) rfl rfl (by kernel_rfl) (by kernel_rfl) (by kernel_rfl) (fun _ _ _ h => h) (Or.inl ⟨by rfl, fun w' hw' => by rfl⟩) hS ?_
        simp only [Act.put, List.setIfInBounds_toArray, List.set_cons_zero, List.set_cons_succ]
        refine take_lawH 6 (some 19) (.int .i64 (k : Int)) rfl rfl (by kernel_rfl) (by kernel_rfl) (by kernel_rfl) (fun _ _ _ h => h) (Or.inl ⟨by rfl, fun w' hw' => by rfl⟩) hS ?_
        simp only [Act.put, List.setIfInBounds_toArray, List.set_cons_zero, List.set_cons_succ]
        refine take_lawH 7 (some 20) (.int .i64 (4 * (k : Int))) rfl rfl (by kernel_rfl) (by kernel_rfl) (by kernel_rfl) (fun _ _ _ h => h) (Or.inl ⟨by rfl, fun w' hw' => by go_simp⟩) hS ?_
        simp only [Act.put, List.setIfInBounds_toArray, List.set_cons_zero, List.set_cons_succ]
        refine take_lawH 8 (some 21) (.int .i64 (4 * (k : Int) + 1)) rfl rfl (by kernel_rfl) (by kernel_rfl) (by kernel_rfl) (fun _ _ _ h => h) (Or.inl ⟨by rfl, fun w' hw' => by go_simp⟩) hS ?_
        simp only [Act.put, List.setIfInBounds_toArray, List.set_cons_zero, List.set_cons_succ]
        refine take_lawH 9 (some 22) (.pointer (some ⟨bb, bo + (4 * k + 1), none⟩)) rfl rfl (by kernel_rfl) (by kernel_rfl) (by kernel_rfl) (fun _ _ _ h => h) (Or.inl ⟨by rfl, fun w' hw' => by exact exec_idxB (.tmp 18) (.tmp 21) rfl bb bo 16 ca (4 * k + 1) _ rfl rfl (by omega) (by omega) w'⟩) hS ?_
        simp only [Act.put, List.setIfInBounds_toArray, List.set_cons_zero, List.set_cons_succ]
        refine take_lawH 10 (some 23) (.int .u8 c1) rfl rfl (by kernel_rfl) (by kernel_rfl) (by kernel_rfl) (fun _ _ _ h => h) (Or.inl ⟨by rfl, fun w' hw' => by exact exec_get (.tmp 22) rfl bb (bo + (4 * k + 1)) c1 rfl w' (C1.out w' hw')⟩) hS ?_
        simp only [Act.put, List.setIfInBounds_toArray, List.set_cons_zero, List.set_cons_succ]
        refine take_lawH 11 (some 24) (.slice (some ⟨bb, bo, none⟩) 16 ca) rfl rfl (by kernel_rfl) (by kernel_rfl) (by kernel_rfl) (fun _ _ _ h => h) (Or.inl ⟨by rfl, fun w' hw' => by rfl⟩) hS ?_
        simp only [Act.put, List.setIfInBounds_toArray, List.set_cons_zero, List.set_cons_succ]
        refine take_lawH 12 (some 25) (.int .i64 (k : Int)) rfl rfl (by kernel_rfl) (by kernel_rfl) (by kernel_rfl) (fun _ _ _ h => h) (Or.inl ⟨by rfl, fun w' hw' => by rfl⟩) hS ?_
        simp only [Act.put, List.setIfInBounds_toArray, List.set_cons_zero, List.set_cons_succ]
        refine take_lawH 13 (some 26) (.int .i64 (4 * (k : Int))) rfl rfl (by kernel_rfl) (by kernel_rfl) (by kernel_rfl) (fun _ _ _ h => h) (Or.inl ⟨by rfl, fun w' hw' => by go_simp⟩) hS ?_
        simp only [Act.put, List.setIfInBounds_toArray, List.set_cons_zero, List.set_cons_succ]
        refine take_lawH 14 (some 27) (.int .i64 (4 * (k : Int) + 2)) rfl rfl (by kernel_rfl) (by kernel_rfl) (by kernel_rfl) (fun _ _ _ h => h) (Or.inl ⟨by rfl, fun w' hw' => by go_simp⟩) hS ?_
        simp only [Act.put, List.setIfInBounds_toArray, List.set_cons_zero, List.set_cons_succ]
        refine take_lawH 15 (some 28) (.pointer (some ⟨bb, bo + (4 * k + 2), none⟩)) rfl rfl (by kernel_rfl) (by kernel_rfl) (by kernel_rfl) (fun _ _ _ h => h) (Or.inl ⟨by rfl, fun w' hw' => by exact exec_idxB (.tmp 24) (.tmp 27) rfl bb bo 16 ca (4 * k + 2) _ rfl rfl (by omega) (by omega) w'⟩) hS ?_
        simp only [Act.put, List.setIfInBounds_toArray, List.set_cons_zero, List.set_cons_succ]
        refine take_lawH 16 (some 29) (.int .u8 c2) rfl rfl (by kernel_rfl) (by kernel_rfl) (by kernel_rfl) (fun _ _ _ h => h) (Or.inl ⟨by rfl, fun w' hw' => by exact exec_get (.tmp 28) rfl bb (bo + (4 * k + 2)) c2 rfl w' (C2.out w' hw')⟩) hS ?_
        simp only [Act.put, List.setIfInBounds_toArray, List.set_cons_zero, List.set_cons_succ]
        refine take_lawH 17 (some 30) (.slice (some ⟨bb, bo, none⟩) 16 ca) rfl rfl (by kernel_rfl) (by kernel_rfl) (by kernel_rfl) (fun _ _ _ h => h) (Or.inl ⟨by rfl, fun w' hw' => by rfl⟩) hS ?_
        simp only [Act.put, List.setIfInBounds_toArray, List.set_cons_zero, List.set_cons_succ]
        refine take_lawH 18 (some 31) (.int .i64 (k : Int)) rfl rfl (by kernel_rfl) (by kernel_rfl) (by kernel_rfl) (fun _ _ _ h => h) (Or.inl ⟨by rfl, fun w' hw' => by rfl⟩) hS ?_
        simp only [Act.put, List.setIfInBounds_toArray, List.set_cons_zero, List.set_cons_succ]
        refine take_lawH 19 (some 32) (.int .i64 (4 * (k : Int))) rfl rfl (by kernel_rfl) (by kernel_rfl) (by kernel_rfl) (fun _ _ _ h => h) (Or.inl ⟨by rfl, fun w' hw' => by go_simp⟩) hS ?_
        simp only [Act.put, List.setIfInBounds_toArray, List.set_cons_zero, List.set_cons_succ]
        refine take_lawH 20 (some 33) (.int .i64 (4 * (k : Int) + 3)) rfl rfl (by kernel_rfl) (by kernel_rfl) (by kernel_rfl) (fun _ _ _ h => h) (Or.inl ⟨by rfl, fun w' hw' => by go_simp⟩) hS ?_
        simp only [Act.put, List.setIfInBounds_toArray, List.set_cons_zero, List.set_cons_succ]
        refine take_lawH 21 (some 34) (.pointer (some ⟨bb, bo + (4 * k + 3), none⟩)) rfl rfl (by kernel_rfl) (by kernel_rfl) (by kernel_rfl) (fun _ _ _ h => h) (Or.inl ⟨by rfl, fun w' hw' => by exact exec_idxB (.tmp 30) (.tmp 33) rfl bb bo 16 ca (4 * k + 3) _ rfl rfl (by omega) (by omega) w'⟩) hS ?_
        simp only [Act.put, List.setIfInBounds_toArray, List.set_cons_zero, List.set_cons_succ]
        refine take_lawH 22 (some 35) (.int .u8 c3) rfl rfl (by kernel_rfl) (by kernel_rfl) (by kernel_rfl) (fun _ _ _ h => h) (Or.inl ⟨by rfl, fun w' hw' => by exact exec_get (.tmp 34) rfl bb (bo + (4 * k + 3)) c3 rfl w' (C3.out w' hw')⟩) hS ?_
        simp only [Act.put, List.setIfInBounds_toArray, List.set_cons_zero, List.set_cons_succ]
        refine take_lawH 23 (some 36) (.agg (ints .u8 [c0, c1, c2, c3])) rfl rfl (by kernel_rfl) (by kernel_rfl) (by kernel_rfl) (fun _ _ _ h => h) (Or.inl ⟨by rfl, fun w' hw' => by kernel_rfl⟩) hS ?_
        simp only [Act.put, List.setIfInBounds_toArray, List.set_cons_zero, List.set_cons_succ]
        refine take_lawH 24 (some 37) (.agg (ints .u8 wl)) rfl rfl (by kernel_rfl) (by kernel_rfl) (by kernel_rfl) (fun _ _ _ h => h) (Or.inl ⟨by rfl, fun w' hw' => by exact exec_loadR 48 (.tmp 3) rfl _ rfl _ _ (RW.out w' hw')⟩) hS ?_
        simp only [Act.put, List.setIfInBounds_toArray, List.set_cons_zero, List.set_cons_succ]
        obtain ⟨x0, hx0⟩ : ∃ x, x = wr.drew := ⟨_, rfl⟩
        rw [← hx0] at hS ⊢
        have b0 := hS
        clear hx0
        refine wpAnyH_ready (rs := [25, 26]) (by kernel_rfl) (by simp) ?_
        refine AllReadyH.cons rfl (fun K hK => ?_) (AllReadyH.cons rfl (fun K hK => ?_) AllReadyH.nil)
        · refine step_callD _ rfl (some 38) rfl 64 #[.tmp 36, .tmp 37] #[48, 48] rfl (fun q w' => by rfl) #[.agg (ints .u8 [c0, c1, c2, c3]), .agg (ints .u8 wl)] (by simp only [List.map_toArray, List.map_cons, List.map_nil]; rfl) (.agg (ints .u8 yl)) _ (HTn.out x0) fun x1 c1 => ?_
          have b1 : Below wr.heap.size wr x1 := b0.trans (c1.mono b0.size)
          refine hK.out _ _ b1 (fun _ => ?_)
          simp only [Act.put, List.setIfInBounds_toArray, List.set_cons_zero, List.set_cons_succ]
          refine wpAnyH_ready (rs := [26]) (by kernel_rfl) (by simp) ?_
          refine AllReadyH.cons rfl (fun K hK => ?_) AllReadyH.nil
          refine step_newG _ rfl (some 7) rfl 48 rfl .u8 z4 z_arr4 fun x2 a2 c2 l2 => ?_
          have b2 : Below wr.heap.size wr x2 := b1.trans (c2.mono b1.size)
          have gl := b1.size
          refine hK.out _ _ b2 (fun _ => ?_)
          simp only [Act.put, List.setIfInBounds_toArray, List.set_cons_zero, List.set_cons_succ]
          generalize x1.heap.size = gg at *
          refine wpAnyH_ready (rs := [27]) (by kernel_rfl) (by simp) ?_
          refine AllReadyH.cons rfl (fun K hK => ?_) AllReadyH.nil
          refine step_storeG _ rfl none rfl (.tmp 7) (.tmp 38) 48 rfl .u8 z4 yl gg rfl rfl a2 4 i_arr4 rfl YL.out fun x3 a3 c3 => ?_
          have b3 : Below wr.heap.size wr x3 := b2.trans (c3.mono gl)
          refine hK.out _ _ b3 (fun _ => ?_)
          simp only [Act.put, List.setIfInBounds_toArray, List.set_cons_zero, List.set_cons_succ]
          refine wpAnyH_done (by kernel_rfl) ?_ _
          go_wp2_with fail
          go_meet
          exact ⟨gg, rfl, gl, a3, b3⟩
        · refine step_newG _ rfl (some 7) rfl 48 rfl .u8 z4 z_arr4 fun x4 a4 c4 l4 => ?_
          have b4 : Below wr.heap.size wr x4 := b0.trans (c4.mono b0.size)
          have gl := b0.size
          refine hK.out _ _ b4 (fun _ => ?_)
          simp only [Act.put, List.setIfInBounds_toArray, List.set_cons_zero, List.set_cons_succ]
          generalize x0.heap.size = gg at *
          refine wpAnyH_ready (rs := [25]) (by kernel_rfl) (by simp) ?_
          refine AllReadyH.cons rfl (fun K hK => ?_) AllReadyH.nil
          refine step_callD _ rfl (some 38) rfl 64 #[.tmp 36, .tmp 37] #[48, 48] rfl (fun q w' => by rfl) #[.agg (ints .u8 [c0, c1, c2, c3]), .agg (ints .u8 wl)] (by simp only [List.map_toArray, List.map_cons, List.map_nil]; rfl) (.agg (ints .u8 yl)) _ (HTn.out x4) fun x5 c5 => ?_
          have b5 : Below wr.heap.size wr x5 := b4.trans (c5.mono b4.size)
          have a5 : Ar x5 gg 0 .u8 z4 := a4.below c5 l4
          have l5 : gg < x5.heap.size := Nat.lt_of_lt_of_le l4 c5.size
          refine hK.out _ _ b5 (fun _ => ?_)
          simp only [Act.put, List.setIfInBounds_toArray, List.set_cons_zero, List.set_cons_succ]
          refine wpAnyH_ready (rs := [27]) (by kernel_rfl) (by simp) ?_
          refine AllReadyH.cons rfl (fun K hK => ?_) AllReadyH.nil
          refine step_storeG _ rfl none rfl (.tmp 7) (.tmp 38) 48 rfl .u8 z4 yl gg rfl rfl a5 4 i_arr4 rfl YL.out fun x6 a6 c6 => ?_
          have b6 : Below wr.heap.size wr x6 := b5.trans (c6.mono gl)
          refine hK.out _ _ b6 (fun _ => ?_)
          simp only [Act.put, List.setIfInBounds_toArray, List.set_cons_zero, List.set_cons_succ]
          refine wpAnyH_done (by kernel_rfl) ?_ _
          go_wp2_with fail
          go_meet
          exact ⟨gg, rfl, gl, a6, b6⟩
      case rest =>
        obtain ⟨g7, rfl, hg7, hA7, hB7⟩ := hcut
        have d0 := hA7.cell0 0 (by rw [YL.out]; omega)
        have d1 := hA7.cell0 1 (by rw [YL.out]; omega)
        have d2 := hA7.cell0 2 (by rw [YL.out]; omega)
        have d3 := hA7.cell0 3 (by rw [YL.out]; omega)
        have HO7 : Hid (Own w1.heap.size wc u5 (ckm ms k)) := World.ownsRow.kept (row := none) HO.out ⟨hB7.os, hB7.tape, hB7.output, hB7.size, fun j hj _ => hB7.block j hj⟩ (by cases hv : Value.ownBlock u5 <;> simp)
        have s7 : w1.heap.size ≤ wc.heap.size := Nat.le_trans hsz hB7.size
        have Y7 : Hid (∀ T, Byt (wc.alloc (.cells (ints .u8 [gb yl 0, gb yl 1, gb yl 2, gb yl 3]) T)) (.slice (some ⟨wc.heap.size, 0, none⟩) 4 4) yl) := fun T => by
          have h := Ar.new wc T .u8 [gb yl 0, gb yl 1, gb yl 2, gb yl 3]
          rw [← HG4.out] at h ⊢
          exact h.bytG YA.out 4 4 YL.out (by omega) (by omega)
        generalize gb yl 0 = e0 at *
        generalize gb yl 1 = e1 at *
        generalize gb yl 2 = e2 at *
        generalize gb yl 3 = e3 at *
        go_wp2_with (at_builtin; refine pushs_lawG _ rfl (.tmp 39) (.tmp 48) rfl w1.heap.size (by simp; omega) _ _ _ yl rfl rfl (World.ownsRow.alloc HO7.out _) (Y7.out _) LN.out (by rw [YL.out]; omega) ?_; intro v8 w8 o8 b8)
        rw [← SN.out] at o8
        have HB8 : Hid (Below w1.heap.size w1 w8) := (hbel.trans (hB7.mono hsz)).trans ((((Below.refl w1.heap.size wc).alloc s7 _)).trans b8)
        have HO8 : Hid (Own w1.heap.size w8 v8 (ckm ms (k + 1))) := o8
        clear o8 b8 d0 d1 d2 d3
        go_roundw
        case rel => exact ⟨k + 1, by omega, by go_num, HO8.out, HB8.out⟩
        case measure => simp [intOf]; omega
    · have hk4 : k = 4 := by omega
      subst hk4
      have e : ckm ms 4 = ms := List.take_of_length_le (by rw [MB.out.1]; omega)
      rw [e] at hown
      clear e
      go_wp2
      go_ret
      exact ⟨_, rfl, hown.byt MB.out.2, B1.trans (hbel.mono z1)⟩
end Go.Proofs.Ytjiddmgnkldmkaa
