/- Texts put together (a claim holds few files). No claim of its own. -/
import Derived.Test.YtahfcpdekjdceaaDoorPackJ
import Derived.Test.YtahfcpdekjdceaaDoorPackL
import Derived.Test.YtahfcpdekjdceaaDoorPackD
/- That the statements' own question 'does the program answer at all?' is answered by yes. No claim of its own. -/
namespace Go.Proofs.YtahfcpdekjdceaaDoor.ck
open Go.RowKit Go.Proofs.YtahfcpdekjdceaaDoor.fa Go.Proofs.YtahfcpdekjdceaaDoor.he Go.Proofs.YtahfcpdekjdceaaDoor.pa
set_option maxRecDepth 20000

/-- noughts -/
def nul (n : Nat) : List Int := List.replicate n 0
theorem nul_len (n : Nat) : (nul n).length = n := List.length_replicate
theorem nul_all (n : Nat) : AllB (nul n) := allB_replicate 0 n (by omega)
theorem step_make {ops : Array Oper} {o : Oper} {a : Act} {Q : Exit → Act → World → Prop} {K : Act → World → Prop} {E : Prop} (w : World) (hg : o.guard = none) (d : Option Tmp) (hd : o.dst = d) (l c : Operand) (hop : o.op = Op.makeSlice 24 l c) (B : Nat) (hB : B ≤ w.heap.size)
    (L : Int) (n : Nat) (hl : a.eval l = .int .i64 L) (hc : a.eval c = .int .i64 L) (hL : L = (n : Int)) (hn : n ≤ 1099511627776)
    (hK : ∀ w', OwnN B w' w.heap.size n (List.replicate n 0) → Below B w w' → w.heap.size < w'.heap.size → K (a.put d (.slice (some ⟨w.heap.size, 0, none⟩) n n)) w') :
    if Region.wanted o (yielded ops a.tmps) = true then Oper.wp Tryd.prog o a w K Q else E := by
  have hw : Region.wanted o (yielded ops a.tmps) = true := by simp [Region.wanted, hg]
  rw [if_pos hw]
  subst hd
  obtain ⟨i0, hi, hz0, hz1, hz2⟩ := info_parts info_u8
  obtain ⟨w', hrun, h1, h2⟩ := run_make_full (P := Tryd.prog) w B 24 5 i0 (.int .u8 0) 1 Tryd.underlying24 hi hz0 hz1 .i64 .i64 n (by rw [hz2]; omega) (by simp only [maxLen]; omega) hB
  subst hL
  have hlt : w.heap.size < w'.heap.size := (h1.lt w.heap.size rfl).2
  unfold Oper.wp
  simp [execOp, hop, hl, hc, hrun, Result.andThen]
  refine hK w' ⟨by simp, hB, ?_⟩ ((Below.refl B w).grown h2 hB (fun k hk => by cases hk)) hlt
  have e : (madeCells (Value.int .u8 0).cells (n * 1)).toList = (List.replicate n (0 : Int)).map (Value.int .u8) := by
    rw [Nat.mul_one]
    show (madeCells #[Value.int .u8 0] n).toList = _
    rw [toList_madeCells_one]; simp
  rw [e] at h1
  exact h1
theorem zero_geo : (Tryd.prog.info? 23).map (fun i => (i.zero, i.size)) = some (some (.agg ([.int .i64 0, .int .i64 0, .int .i64 0, .int .i64 0, .int .i64 0, .int .i64 0] : List Value).toArray), 6) := by kernel_rfl
theorem int_nob {g : List Int} : ∀ v ∈ g.map (Value.int .i64), ∀ y, v ≠ .int .u8 y := by
  intro v h y q
  subst q
  simp at h
theorem int_one {g : List Int} : ∀ v ∈ g.map (Value.int .i64), v.oneCell' = true := by
  intro v h
  obtain ⟨x, _, rfl⟩ := List.mem_map.1 h
  rfl
theorem size_geo : (Tryd.prog.info? 23).map (·.size) = some 6 := by kernel_rfl
theorem rt_awake : ge.Rt [7, 10, (64 : Nat), 0, 1, 1] := by
  refine ⟨⟨?_, ?_, ?_, ?_, ?_, ?_⟩, ?_, ?_, ?_⟩ <;> simp [gb, ge.rec]

set_option maxHeartbeats 4000000 in
theorem awake_any (w : World) (hT : Tab w) :
    Calls Tryd.prog 9 #[] w fun x w' => x = .returned (.bool true) ∧ Below w.heap.size w w' := by
  have SP : Hid (∀ w0 v, Below w.heap.size w w0 → Byt w0 v (nul 624) → Calls Tryd.prog 7 #[.agg (ints .i64 [7, 10, (64 : Nat), 0, 1, 1]), v, .int .u64 3] w0 fun x w' => ∃ lo lc, x = .returned (.tuple #[.slice lo 10 lc, .int .i64 0]) ∧ Below w0.heap.size w0 w') := fun w0 v q hv => (pages_yes 7 10 0 1 1 64 v _ 3 w0 rt_awake hv (nul_len 624) (by omega) (hT.below q)).mono fun x w' ⟨r, e, hP, hB⟩ => by
    obtain ⟨lo, lc, rfl⟩ := hP.form
    exact ⟨lo, lc, e, hB⟩
  have SU : Hid (∀ w0, Below w.heap.size w w0 → Calls Tryd.prog 16 #[.agg (ints .i64 [7, 10, (64 : Nat), 0, 1, 1]), .slice none 0 0] w0 fun x w' => ∃ co cn cc, x = .returned (.tuple #[.int .i64 (-1), .int .u64 0, .slice co cn cc]) ∧ Below w0.heap.size w0 w') := fun w0 q => (current_any 7 10 0 1 1 64 _ [] w0 rt_awake (hT.below q) (Bks.nil w0)).mono fun x w' ⟨⟨a0, gen, rec, ro, rn, rc, e, _, hK⟩, hB⟩ => by
    have z := kc_only hK (kc_zero 64 [])
    rw [z.1, z.2.1] at e
    exact ⟨ro, rn, rc, e, hB⟩
  clear hT
  have t0 : (0 : Nat) = 0 := rfl
  go_enter Tryd.func9, Tryd.ntmps9
  go_wp2_with (first
    | (have q2 := t2; (with_reducible refine at_store ?_); refine store_lawC _ [.int .i64 7, .int .i64 10, .int .i64 64, .int .i64 0, .int .i64 1, .int .i64 1] w.heap.size 0 rfl rfl HN.out.2 size_geo (int_one (g := [7, 10, 64, 0, 1, 1])) ?_; intro w2 E9 R9 T9 B9; have B9 : Below w.heap.size w w2 := BA.out.trans B9; have HG : Hid (Vr w2 w.heap.size [.int .i64 7, .int .i64 10, .int .i64 64, .int .i64 0, .int .i64 1, .int .i64 1]) := ⟨R9, T9⟩; have BB : Hid (Below w.heap.size w w2) := B9; have hg_0 := HG.out.cell 0 _ rfl; have hg_1 := HG.out.cell 1 _ rfl; have hg_2 := HG.out.cell 2 _ rfl; have hg_3 := HG.out.cell 3 _ rfl; have hg_4 := HG.out.cell 4 _ rfl; have hg_5 := HG.out.cell 5 _ rfl; clear E9 R9 T9 B9 HN BA; clear t2; have t3 : (1 : Nat) = 1 := rfl)
    | (have q1 := t1; (with_reducible refine at_alloc ?_); refine new_lawC _ [.int .i64 0, .int .i64 0, .int .i64 0, .int .i64 0, .int .i64 0, .int .i64 0] zero_geo ?_; intro w1 X9 B9 l9; have HN : Hid (Vr w1 w.heap.size [.int .i64 0, .int .i64 0, .int .i64 0, .int .i64 0, .int .i64 0, .int .i64 0]) := X9; have BA : Hid (Below w.heap.size w w1) := B9; clear X9 B9 l9; clear t1; have t2 : (1 : Nat) = 1 := rfl)
    | (have q0 := t0; refine build_law _ rfl 23 _ rfl (.agg ([.int .i64 7, .int .i64 10, .int .i64 64, .int .i64 0, .int .i64 1, .int .i64 1] : List Value).toArray) (by kernel_rfl) ?_; clear t0; have t1 : (1 : Nat) = 1 := rfl))
  refine wp_region_held_drew (S := fun w' => Below w2.heap.size w2 w') (by kernel_rfl) (Below.refl _ _).drew (fun hS => ?_)
  obtain ⟨x1, hx0⟩ : ∃ x, x = w2.drew := ⟨_, rfl⟩
  rw [← hx0] at hS  ⊢
  clear hx0
  refine take_lawH 0 (some 9) (.agg ([.int .i64 7, .int .i64 10, .int .i64 64, .int .i64 0, .int .i64 1, .int .i64 1] : List Value).toArray) rfl rfl (by kernel_rfl) (by kernel_rfl) (by kernel_rfl) (fun _ _ _ h => h) (Or.inl ⟨by rfl, fun w' hw' => by exact exec_loadN 23 (.tmp 1) rfl _ rfl _ _ (load_cells rowy_geo (HG.out.below hw' (range_lt HG.out.1 (Nat.succ_pos _))).1)⟩) hS ?_
  simp only [Act.put, List.setIfInBounds_toArray, List.set_cons_zero, List.set_cons_succ]
  refine wpAnyH_ready (rs := [1]) (by kernel_rfl) (by simp) ?_
  refine AllReadyH.cons rfl (fun K hK => ?_) AllReadyH.nil
  refine step_make _ rfl (some 10) rfl (.const (.int .i64 624)) (.const (.int .i64 624)) rfl x1.heap.size (Nat.le_refl _) 624 624 rfl rfl rfl (by omega) ?_
  intro x2 o9 hb l9
  have YR : Hid (Byt x2 (.slice (some ⟨x1.heap.size, 0, none⟩) 624 624) (nul 624)) := o9.byt (nul_all 624)
  have hS : Below w2.heap.size w2 x2 := hS.trans (hb.mono hS.size)
  clear o9 hb l9
  refine hK.out _ _ hS (fun _ => ?_)
  simp only [Act.put, List.setIfInBounds_toArray, List.set_cons_zero, List.set_cons_succ]
  clear hK K
  refine wpAnyH_ready (rs := [2]) (by kernel_rfl) (by simp) ?_
  refine AllReadyH.cons rfl (fun K hK => ?_) AllReadyH.nil
  refine step_callW _ (by rfl) (some 11) rfl 7 #[.tmp 9, .tmp 10, .const (.int .u64 3)] #[23, 24, 25] rfl (fun q w' => by rfl) #[.agg ([.int .i64 7, .int .i64 10, .int .i64 64, .int .i64 0, .int .i64 1, .int .i64 1] : List Value).toArray, .slice (some ⟨x1.heap.size, 0, none⟩) 624 624, .int .u64 3] (by simp only [List.map_toArray, List.map_cons, List.map_nil]; rfl) (fun u w' => (∃ lo lc, u = .tuple #[.slice lo 10 lc, .int .i64 0]) ∧ Below x2.heap.size x2 w') ?_ ?_
  · exact (SP.out x2 _ (BB.out.trans (hS.mono BB.out.size)) YR.out).mono fun e w' ⟨lo, lc, h1, h2⟩ => ⟨_, h1, ⟨lo, lc, rfl⟩, h2⟩
  rintro _ x3 ⟨⟨lo, lc, rfl⟩, hb⟩
  have hS : Below w2.heap.size w2 x3 := hS.trans (hb.mono hS.size)
  clear hb
  refine hK.out _ _ hS (fun _ => ?_)
  simp only [Act.put, List.setIfInBounds_toArray, List.set_cons_zero, List.set_cons_succ]
  clear hK K
  refine take_lawH 3 (some 8) (.tuple #[.slice lo 10 lc, .int .i64 0]) rfl rfl (by kernel_rfl) (by kernel_rfl) (by kernel_rfl) (fun _ _ _ h => h) (Or.inl ⟨by rfl, fun w' hw' => by rfl⟩) hS ?_
  simp only [Act.put, List.setIfInBounds_toArray, List.set_cons_zero, List.set_cons_succ]
  refine take_lawH 4 (some 12) (.slice lo 10 lc) rfl rfl (by kernel_rfl) (by kernel_rfl) (by kernel_rfl) (fun _ _ _ h => h) (Or.inl ⟨by rfl, fun w' hw' => by rfl⟩) hS ?_
  simp only [Act.put, List.setIfInBounds_toArray, List.set_cons_zero, List.set_cons_succ]
  refine take_lawH 5 (some 13) (.int .i64 0) rfl rfl (by kernel_rfl) (by kernel_rfl) (by kernel_rfl) (fun _ _ _ h => h) (Or.inl ⟨by rfl, fun w' hw' => by rfl⟩) hS ?_
  simp only [Act.put, List.setIfInBounds_toArray, List.set_cons_zero, List.set_cons_succ]
  refine take_lawH 6 (some 2) (.slice lo 10 lc) rfl rfl (by kernel_rfl) (by kernel_rfl) (by kernel_rfl) (fun _ _ _ h => h) (Or.inl ⟨by rfl, fun w' hw' => by rfl⟩) hS ?_
  simp only [Act.put, List.setIfInBounds_toArray, List.set_cons_zero, List.set_cons_succ]
  refine take_lawH 7 (some 3) (.int .i64 0) rfl rfl (by kernel_rfl) (by kernel_rfl) (by kernel_rfl) (fun _ _ _ h => h) (Or.inl ⟨by rfl, fun w' hw' => by rfl⟩) hS ?_
  simp only [Act.put, List.setIfInBounds_toArray, List.set_cons_zero, List.set_cons_succ]
  refine wpAnyH_done (by kernel_rfl) ?_ _
  (try clear hg_0 hg_1 hg_2 hg_3 hg_4 hg_5)
  have HG : Hid (Vr x3 w.heap.size [.int .i64 7, .int .i64 10, .int .i64 64, .int .i64 0, .int .i64 1, .int .i64 1]) := HG.out.below hS (range_lt HG.out.1 (Nat.succ_pos _))
  have BB : Hid (Below w.heap.size w x3) := BB.out.trans (hS.mono BB.out.size)
  clear hS
  have hg_0 := HG.out.cell 0 _ rfl
  have hg_1 := HG.out.cell 1 _ rfl
  have hg_2 := HG.out.cell 2 _ rfl
  have hg_3 := HG.out.cell 3 _ rfl
  have hg_4 := HG.out.cell 4 _ rfl
  have hg_5 := HG.out.cell 5 _ rfl
  have t50 : (1 : Nat) = 1 := rfl
  go_wp2_with (first
    | (have q50 := t50; go_at_call 16; refine (SU.out x3 BB.out).mono ?_; rintro e9 w91 ⟨co, cn, cc, rfl, B9⟩; have HG : Hid (Vr w91 w.heap.size [.int .i64 7, .int .i64 10, .int .i64 64, .int .i64 0, .int .i64 1, .int .i64 1]) := HG.out.below B9 (range_lt HG.out.1 (Nat.succ_pos _)); have BB : Hid (Below w.heap.size w w91) := BB.out.trans (B9.mono BB.out.size); clear hg_0 hg_1 hg_2 hg_3 hg_4 hg_5; have hg_0 := HG.out.cell 0 _ rfl; have hg_1 := HG.out.cell 1 _ rfl; have hg_2 := HG.out.cell 2 _ rfl; have hg_3 := HG.out.cell 3 _ rfl; have hg_4 := HG.out.cell 4 _ rfl; have hg_5 := HG.out.cell 5 _ rfl; clear B9; clear t50; have t51 : (1 : Nat) = 1 := rfl))
  go_ret
  exact ⟨rfl, BB.out⟩
end Go.Proofs.YtahfcpdekjdceaaDoor.ck

/- What the laws' light and few answer. No claim of its own. -/
namespace Go.Proofs.YtahfcpdekjdceaaDoor.ck
open Go.RowKit Go.Proofs.YtahfcpdekjdceaaDoor.fa Go.Proofs.YtahfcpdekjdceaaDoor.he Go.Proofs.YtahfcpdekjdceaaDoor.pa
set_option maxRecDepth 20000

set_option maxHeartbeats 4000000 in
theorem light_yes (g0 g1 g2 g3 g4 g5 : Int) (w : World) (h : g2 ≤ 700) :
    Calls Tryd.prog 10 #[.agg (ints .i64 [g0, g1, g2, g3, g4, g5])] w fun x w' => x = .returned (.bool true) ∧ Below w.heap.size w w' := by
  have t0 : (0 : Nat) = 0 := rfl
  go_enter Tryd.func10, Tryd.ntmps10
  go_wp2_with (first
    | (have q0 := t0; refine box_lawC _ [.int .i64 g0, .int .i64 g1, .int .i64 g2, .int .i64 g3, .int .i64 g4, .int .i64 g5] rfl ?_; intro w1 X9 B9 l9; have HB0 : Hid (Vr w1 w.heap.size [.int .i64 g0, .int .i64 g1, .int .i64 g2, .int .i64 g3, .int .i64 g4, .int .i64 g5]) := X9; have BB : Hid (Below w.heap.size w w1) := B9; have hb0_0 := HB0.out.cell 0 _ rfl; have hb0_1 := HB0.out.cell 1 _ rfl; have hb0_2 := HB0.out.cell 2 _ rfl; have hb0_3 := HB0.out.cell 3 _ rfl; have hb0_4 := HB0.out.cell 4 _ rfl; have hb0_5 := HB0.out.cell 5 _ rfl; clear X9 B9 l9; clear t0; have t1 : (1 : Nat) = 1 := rfl))
  go_ret
  exact ⟨rfl, BB.out⟩

set_option maxHeartbeats 4000000 in
theorem light_no (g0 g1 g2 g3 g4 g5 : Int) (w : World) (h : ¬ g2 ≤ 700) :
    Calls Tryd.prog 10 #[.agg (ints .i64 [g0, g1, g2, g3, g4, g5])] w fun x w' => x = .returned (.bool false) ∧ Below w.heap.size w w' := by
  have t0 : (0 : Nat) = 0 := rfl
  go_enter Tryd.func10, Tryd.ntmps10
  go_wp2_with (first
    | (have q0 := t0; refine box_lawC _ [.int .i64 g0, .int .i64 g1, .int .i64 g2, .int .i64 g3, .int .i64 g4, .int .i64 g5] rfl ?_; intro w1 X9 B9 l9; have HB0 : Hid (Vr w1 w.heap.size [.int .i64 g0, .int .i64 g1, .int .i64 g2, .int .i64 g3, .int .i64 g4, .int .i64 g5]) := X9; have BB : Hid (Below w.heap.size w w1) := B9; have hb0_0 := HB0.out.cell 0 _ rfl; have hb0_1 := HB0.out.cell 1 _ rfl; have hb0_2 := HB0.out.cell 2 _ rfl; have hb0_3 := HB0.out.cell 3 _ rfl; have hb0_4 := HB0.out.cell 4 _ rfl; have hb0_5 := HB0.out.cell 5 _ rfl; clear X9 B9 l9; clear t0; have t1 : (1 : Nat) = 1 := rfl))
  go_ret
  exact ⟨rfl, BB.out⟩

/-- there are few pages -/
def Few (ls : List (List Int)) : Prop := ls.length ≤ 40 ∧ ∀ i, i < ls.length → (ls.getD i []).length ≤ 900

set_option maxHeartbeats 4000000 in
theorem few_any (v : Value) (ls : List (List Int)) (w : World) (hp : Pgs w v ls) (c : Bool) (hc : c = true ↔ Few ls) :
    Calls Tryd.prog 13 #[v] w fun x w' => x = .returned (.bool c) ∧ Below w.heap.size w w' := by
  obtain ⟨ao, cap, rfl, h1, h2, h3⟩ := hp.at
  have HA : Hid (0 < ls.length → ∃ b off, ao = some ⟨b, off, none⟩ ∧ ∀ i, i < ls.length → ∃ u, w.cell? ⟨b, off + i, none⟩ = some u ∧ Byt w u (ls.getD i [])) := h3
  have HC : Hid (c = true ↔ Few ls) := hc
  obtain ⟨n, en⟩ : ∃ n, ls.length = n := ⟨_, rfl⟩
  have EN : Hid (ls.length = n) := en
  have hm : n ≤ 9223372036854775807 := by omega
  rw [en] at HA ⊢
  clear hp hc h1 h2 h3 en
  by_cases h40 : n ≤ 40
  · have g40 : ¬ ((n : Int) > 40) := by omega
    go_enter Tryd.func13, Tryd.ntmps13
    go_wp2
    go_loopw [3] (fun i wr => wr = w ∧ ∃ k : Nat, k ≤ n ∧ i = .int .i64 (k : Int) ∧ ∀ j, j < k → (ls.getD j []).length ≤ 900) (fun i _ => n - (intOf i).toNat)
    case atStart => exact ⟨rfl, 0, Nat.zero_le _, rfl, fun j hj => absurd hj (Nat.not_lt_zero _)⟩
    case round =>
      obtain ⟨rfl, k, hk, rfl, hj⟩ := hrel
      have HJ : Hid (∀ j, j < k → (ls.getD j []).length ≤ 900) := hj
      clear hj
      by_cases hlt : k < n
      · have lk : (k : Int) < (n : Int) := by omega
        obtain ⟨b, off, rfl, hall⟩ := HA.out (by omega)
        obtain ⟨u, hu, hy⟩ := hall k hlt
        obtain ⟨zn, ez⟩ : ∃ q, (ls.getD k []).length = q := ⟨_, rfl⟩
        obtain ⟨zo, zc, rfl⟩ := byt_form hy ez
        have EZ : Hid ((ls.getD k []).length = zn) := ez
        clear hall hy ez
        by_cases hz : zn ≤ 900
        · have gz : ¬ ((zn : Int) > 900) := by omega
          go_wp2
          go_roundw
          case rel => exact ⟨trivial, k + 1, by omega, by go_num, fun j hj => by
            by_cases e : j = k
            · rw [e, EZ.out]; exact hz
            · exact HJ.out j (by omega)⟩
          case measure => simp [intOf]; omega
        · have gz : (zn : Int) > 900 := by omega
          have e : c = false := by
            cases c with
            | false => rfl
            | true => exact absurd ((HC.out.1 rfl).2 k (by rw [EN.out]; exact hlt)) (by rw [EZ.out]; exact hz)
          subst e
          go_wp2
          go_ret
          exact ⟨rfl, Below.refl _ _⟩
      · have lk : ¬ ((k : Int) < (n : Int)) := by omega
        have e : c = true := HC.out.2 ⟨by rw [EN.out]; exact h40, fun i hi => HJ.out i (by rw [EN.out] at hi; omega)⟩
        subst e
        go_wp2
        go_ret
        exact ⟨rfl, Below.refl _ _⟩
  · have g40 : (n : Int) > 40 := by omega
    have e : c = false := by
      cases c with
      | false => rfl
      | true => exact absurd (HC.out.1 rfl).1 (by rw [EN.out]; exact h40)
    subst e
    go_enter Tryd.func13, Tryd.ntmps13
    go_wp2
    go_ret
    exact ⟨rfl, Below.refl _ _⟩
end Go.Proofs.YtahfcpdekjdceaaDoor.ck

/- Rws of pages, cell by cell; what the laws of stage 19 ask of them. No claim of its own. -/
namespace Go.Proofs.YtahfcpdekjdceaaDoor.ck
open Go.RowKit Go.Proofs.YtahfcpdekjdceaaDoor.fa Go.Proofs.YtahfcpdekjdceaaDoor.he Go.Proofs.YtahfcpdekjdceaaDoor.pa
set_option maxRecDepth 20000

/-- n cells from off on hold slices of bytes, as F tells them -/
def Rws (w : World) (b off n : Nat) (F : Nat → List Int) : Prop := ∀ i, i < n → ∃ u, w.cell? ⟨b, off + i, none⟩ = some u ∧ Byt w u (F i)
theorem Rws.below {w w' : World} {b off n : Nat} {F : Nat → List Int} (h : Rws w b off n F) (hb : Below w.heap.size w w') : Rws w' b off n F := fun i hi => by
  obtain ⟨u, h1, h2⟩ := h i hi
  exact ⟨u, by rw [hb.cell (World.block_lt_of_cell? _ _ h1)]; exact h1, h2.below hb⟩
theorem rws_fl {w : World} {v : Value} {F : Nat → List Int} {n : Nat} (h : Pgs w v (fl F n)) (hn : 0 < n) : ∃ b off cap, v = .slice (some ⟨b, off, none⟩) n cap ∧ Rws w b off n F := by
  obtain ⟨ao, cap, rfl, -, -, h3⟩ := h.at
  rw [fl_len] at h3 ⊢
  obtain ⟨b, off, rfl, hc⟩ := h3 hn
  refine ⟨b, off, cap, rfl, fun i hi => ?_⟩
  obtain ⟨u, h1, h2⟩ := hc i hi
  rw [fl_at F n i hi] at h2
  exact ⟨u, h1, h2⟩
theorem geo_six (g : List Int) (hg : g.length = 6) : ∃ g0 g1 g2 g3 g4 g5, g = [g0, g1, g2, g3, g4, g5] := by
  match g, hg with
  | [g0, g1, g2, g3, g4, g5], _ => exact ⟨g0, g1, g2, g3, g4, g5, rfl⟩
theorem same_yes (w : World) (va vb : Value) (xs : List Int) (ha : Byt w va xs) (hb : Byt w vb xs) : Calls Tryd.prog 12 #[va, vb] w fun e w' => e = .returned (.bool true) ∧ Below w.heap.size w w' := he.same_yes w va vb xs ha hb
end Go.Proofs.YtahfcpdekjdceaaDoor.ck

/- What arguments that are a geometry or an array of two slices of bytes hold. No claim of its own. -/
namespace Go.Proofs.YtahfcpdekjdceaaDoor.ge
open Go.ChangeShapes Go.WideShapes Go.ChangeAt Go.RowKit
set_option maxRecDepth 20000

theorem cells_int : Tryd.prog.cellsOf 3 = 1 := by kernel_rfl
theorem cells_geo : Tryd.prog.cellsOf 23 = 6 := by kernel_rfl

/-- one cell that is read as a number -/
theorem int_cell {H : Type} {enc : TypeId × Value → H} {W : World} {fuel : Nat} {c : Value} {x : DataW H × List MemPlace}
    (hf : DataW.trod enc Tryd.prog W 0 (fun _ => true) true fuel 3 [c] = some x) : ∃ n, c = .int .i64 n := by
  obtain ⟨y, hy, -⟩ := DataW.trod_int Tryd.underlying3 hf
  exact ⟨y, by simpa using hy⟩

/-- an argument that is a geometry -/
theorem geo_open {H : Type} {enc : TypeId × Value → H} {W : World} {base : Nat} {v : Value} {d : DataW H} {ps : List MemPlace}
    (ok : Value.okWide Tryd.prog W .any base 23 v) (h : DataW.Trod enc Tryd.prog W 0 (fun _ => true) true 23 v d ps) : ∃ g : List Int, v = .agg (ints .i64 g) ∧ g.length = 6 := by
  simp only [Value.okWide, Tryd.underlying23] at ok
  obtain ⟨cs, rfl, h2, _⟩ := ok
  rw [cells_geo] at h2
  obtain ⟨l⟩ := cs
  obtain ⟨c0, c1, c2, c3, c4, c5, rfl⟩ : ∃ c0 c1 c2 c3 c4 c5, l = [c0, c1, c2, c3, c4, c5] := by
    match l, h2 with
    | [c0, c1, c2, c3, c4, c5], _ => exact ⟨c0, c1, c2, c3, c4, c5, rfl⟩
  obtain ⟨fuel, hf⟩ := h
  obtain ⟨xs, n, -, -, -, hlen, hall⟩ := DataW.trod_struct Tryd.underlying23 hf
  match xs, hlen with
  | [y0, y1, y2, y3, y4, y5], _ =>
    have a0 := hall 0 _ rfl
    have a1 := hall 1 _ rfl
    have a2 := hall 2 _ rfl
    have a3 := hall 3 _ rfl
    have a4 := hall 4 _ rfl
    have a5 := hall 5 _ rfl
    simp [cells_int, Value.cells] at a0 a1 a2 a3 a4 a5
    obtain ⟨n0, rfl⟩ := int_cell a0
    obtain ⟨n1, rfl⟩ := int_cell a1
    obtain ⟨n2, rfl⟩ := int_cell a2
    obtain ⟨n3, rfl⟩ := int_cell a3
    obtain ⟨n4, rfl⟩ := int_cell a4
    obtain ⟨n5, rfl⟩ := int_cell a5
    exact ⟨[n0, n1, n2, n3, n4, n5], rfl, rfl⟩
end Go.Proofs.YtahfcpdekjdceaaDoor.ge

namespace Go.Proofs.YtahfcpdekjdceaaDoor.pa
open Go.ChangeShapes Go.WideShapes Go.ChangeAt Go.RowKit

theorem cells_bytes : Tryd.prog.cellsOf 24 = 1 := by kernel_rfl
/-- one cell that is read as a slice of bytes -/
theorem byt_cells {H : Type} {enc : TypeId × Value → H} {W : World} {fuel : Nat} {v : Value} {x : DataW H × List MemPlace}
    (hf : DataW.trod enc Tryd.prog W 0 (fun _ => true) true fuel 24 [v] = some x) : ∃ xs, Byt W v xs := by
  rcases open_ints Tryd.underlying24 Tryd.underlying5 cells_u8 hf with ⟨hcs, hx⟩ | ⟨a, len, cap, zs, hcs, _, hl, hm, hz, hx, hcell, hwz⟩
  · obtain rfl : v = .slice none 0 0 := by simpa using hcs
    exact ⟨[], Byt.nil W⟩
  · obtain rfl : v = .slice (some a) len cap := by simpa using hcs
    simp at hz
    have hlen : (zs.take len).length = len := by simp; omega
    have hgb : ∀ t, t < len → gb (zs.take len) t = zs.getD t 0 := fun t ht => by simp [gb, List.getD, ht]
    refine ⟨zs.take len, some a, cap, by rw [hlen], by omega, by simpa [maxLen] using hm, allB_mem fun x hx => bounds_u8 (hwz x (List.mem_of_mem_take hx)), (by intro h; cases h), fun hp => ?_⟩
    obtain ⟨b, off, rfl, hc⟩ := ints_at hcell (by omega)
    refine ⟨b, off, rfl, fun t ht => ?_⟩
    rw [hgb t (by omega)]
    exact hc t (by omega)

