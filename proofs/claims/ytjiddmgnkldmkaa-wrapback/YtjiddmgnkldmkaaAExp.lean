/- What aes' Expand answers. No claim of its own. -/
import Derived.Test.YtjiddmgnkldmkaaAStir
import Derived.Test.YtjiddmgnkldmkaaASt
namespace Go.Proofs.Ytjiddmgnkldmkaa
open Go.RowKit

theorem info_u32G : (Try.prog.info? 54).map (fun i => (i.zero, i.size, i.bytes)) = some (some (.int .u32 0), 1, 4) := by kernel_rfl
theorem i_u32 : (Try.prog.info? 54).map (·.size) = some 1 := by kernel_rfl
theorem und_words : Try.prog.underlying 45 = some (.slice (Try.prog.elem 45)) := by kernel_rfl
theorem elem_words : Try.prog.elem 45 = 54 := by kernel_rfl
theorem run_size_u32G (w : World) : (sizeOf 54).run Try.prog w = .ok 1 w := by
  obtain ⟨i0, hi, hz0, hz1, hz2⟩ := info_parts info_u32G
  simp [sizeOf, typeInfo, hi, hz1]

/-- 'make([]uint32, n)': n noughts in a block of their own -/
theorem make_lawW {ops : Array Oper} {rest : List Oper} {o : Oper} {a : Act} {Q : Exit → Act → World → Prop} (w : World) (hg : o.guard = none) (l c : Operand) (hop : o.op = Op.makeSlice 45 l c)
    (L : Int) (n : Nat) (hl : a.eval l = .int .i64 L) (hc : a.eval c = .int .i64 L) (hL : L = (n : Int)) (hn : n ≤ 1099511627776)
    (hK : ∀ w', Ar w' w.heap.size 0 .u32 (List.replicate n 0) → Below w.heap.size w w' → w.heap.size < w'.heap.size → wpList Try.prog ops Q rest (a.put o.dst (.slice (some ⟨w.heap.size, 0, none⟩) n n)) w') :
    wpList Try.prog ops Q (o :: rest) a w := by
  obtain ⟨i0, hi, hz0, hz1, hz2⟩ := info_parts info_u32G
  refine wpList_make_full w hg l c 45 hop w.heap.size 54 i0 (.int .u32 0) 1 Try.underlying45 hi hz0 hz1 .i64 .i64 L L n hl hc hL hL (by rw [hz2]; omega) (by simp only [maxLen]; omega) (Nat.le_refl _) fun w' h1 h2 => ?_
  have hlt : w.heap.size < w'.heap.size := (h1.lt w.heap.size rfl).2
  refine hK w' ?_ ((Below.refl _ w).grown h2 (Nat.le_refl _) (fun k hk => by cases hk)) hlt
  have e : (madeCells (Value.int .u32 0).cells (n * 1)).toList = (List.replicate n (0 : Int)).map (Value.int .u32) := by
    rw [Nat.mul_one]
    show (madeCells #[Value.int .u32 0] n).toList = _
    rw [toList_madeCells_one]; simp
  rw [e] at h1
  refine Ar.mk fun i hi => ?_
  rw [Nat.zero_add]
  have hi' : i < n := by simpa using hi
  refine ⟨?_, h1.frozenAt i⟩
  rw [h1.cellAt i (by omega)]
  simp [gb, List.getD, hi']

section
variable {ops : Array Oper} {C : World → Prop} {K : Act → Prop} {o : Oper} {a : Act}
/-- the address of a word of a slice -/
theorem q_idxW (hw : Region.wanted o (yielded ops a.tmps) = true) (d : Option Tmp) (hd : o.dst = d) (x y : Operand) (hop : o.op = Op.indexAddr 45 x y) (b off n cap i : Nat) (hx : a.eval x = .slice (some ⟨b, off, none⟩) n cap) (hy : a.eval y = .int .i64 i) (hi : i < n)
    (q : Nat) (hq : q = off + i) (hK : K (a.put d (.pointer (some ⟨b, q, none⟩)))) :
    if Region.wanted o (yielded ops a.tmps) = true then o.quiet Try.prog a C K else K (a.put o.dst undef) := by
  refine q_val hw d hd _ (fun w _ => ?_) hK
  subst hq
  have hr : (Instr.indexAt 45 (.slice (some ⟨b, off, none⟩) n cap) (.int .i64 (i : Int))).run Try.prog w = .ok (.pointer (some ⟨b, off + i, none⟩)) w := by
    rw [run_indexAt_slice _ _ _ _ _ _ _ und_words, if_pos (by omega), elem_words, run_size_u32G]
    simp [Result.andThen, Addr.add]
  unfold execOp
  simp only [hop, hx, hy, Sem.run_bind, Sem.run_pure, Result.andThen_ok, hr]
end

/-- the first k words -/
def prw (key : List Int) (k : Nat) : List Int := (List.range 60).map fun t => if t < k then (wn key t : Int) else 0
theorem prw_len (key : List Int) (k : Nat) : (prw key k).length = 60 := by simp [prw]
theorem gb_prw (key : List Int) (k t : Nat) (h : t < 60) : gb (prw key k) t = if t < k then (wn key t : Int) else 0 := range_gb _ _ _ h
theorem prw_zero (key : List Int) : prw key 0 = List.replicate 60 0 := rfl
theorem prw_set (key : List Int) (k : Nat) : (prw key k).set k (wn key k : Int) = prw key (k + 1) := ext_gb (by simp [prw]) fun t ht => by
  rw [List.length_set, prw_len] at ht
  rw [gb_set _ _ _ _ (by rw [prw_len]; exact ht), gb_prw _ _ _ ht, gb_prw _ _ _ ht]
  by_cases e : k = t
  · subst e; simp
  · rw [if_neg e]
    by_cases h : t < k
    · rw [if_pos h, if_pos (by omega)]
    · rw [if_neg h, if_neg (by omega)]

set_option linter.unusedSimpArgs false in
set_option maxRecDepth 20000 in
set_option maxHeartbeats 4000000 in
theorem exp_any (v : Value) (key : List Int) (w : World) (hv : Byt w v key) (hl : key.length = 32) :
    Calls Try.prog 30 #[v] w fun e w' => ∃ g, e = .returned (.tuple #[.slice (some ⟨g, 0, none⟩) 60 60, .int .i64 0]) ∧ Ar w' g 0 .u32 (prw key 60) ∧ w.heap.size ≤ g ∧ Below w.heap.size w w' := by
  have HX : Hid (AllB key) := hv.all
  obtain ⟨ao, ca, rfl, ha1, ha2, ha3, -, ha5⟩ := hv
  obtain ⟨bb, bo, rfl, hcell⟩ := ha5 (by omega)
  have HC : Hid (∀ t, t < key.length → w.cell? ⟨bb, bo + t, none⟩ = some (.int .u8 (gb key t))) := hcell
  have HL : Hid (key.length = 32) := hl
  have hbw : bb < w.heap.size := World.block_lt_of_cell? w _ (hcell 0 (by omega))
  have HWL : Hid (∀ i, wn key i < 4294967296) := wn_lt key hl ha3
  have HWE : Hid (∀ i, 8 ≤ i → wn key i = wn key (i - 8) ^^^ stn i (wn key (i - 1))) := fun i hi => wn_eq key hl ha3 i hi
  have HWF : Hid (∀ i, i < 8 → num (last8 (cut4 key i)) = (wn key i : Int)) := fun i hi => by
    rw [num4 _ (cut4_wd key i ha3 (by omega)), wn_first key i hi]
  rw [hl] at ha1 ⊢
  clear hcell ha5 hl ha3
  go_enter Try.func30, Try.ntmps30
  go_wp2_with (at_make; refine make_lawW _ rfl _ _ rfl 60 60 rfl rfl rfl (by omega) ?_; intro w1 A1 B1 s1; have HA1 : Hid (Ar w1 w.heap.size 0 .u32 (List.replicate 60 0)) := A1; clear A1)
  generalize hg0 : w.heap.size = g0 at *
  go_loopw [11] (fun i wr => ∃ k : Nat, k ≤ 8 ∧ i = .int .i64 k ∧ Ar wr g0 0 .u32 (prw key k) ∧ Below g0 w wr) (fun i _ => 8 - (intOf i).toNat)
  case atStart => exact ⟨0, Nat.zero_le _, rfl, by rw [prw_zero]; exact HA1.out, B1⟩
  case round =>
    obtain ⟨k, hk, rfl, hA, hB⟩ := hrel
    have k0 : (0 : Int) ≤ (k : Int) := by omega
    have q1 : IntKind.i64.wrap (k : Int) = k := by rw [IntKind.wrap_i64]; omega
    by_cases hlt : k < 8
    · have k1 : (k : Int) < 8 := by omega
      have k60 : (k : Int) < 60 := by omega
      have HCut : Hid (∀ w0, Calls Try.prog 50 #[.slice (some ⟨bb, bo, none⟩) 32 ca, .int .i64 k] w0 fun e w' => e = .returned (.slice (some ⟨bb, bo + 4 * k, none⟩) 4 4) ∧ w' = w0) := fun w0 => cut_any bb bo 32 ca k w0 (by omega) ha1 (by omega)
      have HY : Byt wr (.slice (some ⟨bb, bo + 4 * k, none⟩) 4 4) (cut4 key k) := by
        have hln := cut4_len key k (by rw [HL.out]; omega)
        refine ⟨some ⟨bb, bo + 4 * k, none⟩, 4, by rw [hln], by omega, by omega, cut4_all key k HX.out, (by intro h; cases h), fun _ => ⟨bb, bo + 4 * k, rfl, fun t ht => ?_⟩⟩
        have c := HC.out (4 * k + t) (by rw [HL.out]; omega)
        rw [cut4_gb _ _ _ (by omega), Nat.add_assoc, hB.cell hbw]
        exact c
      have HN : Hid (Calls Try.prog 49 #[.slice (some ⟨bb, bo + 4 * k, none⟩) 4 4] wr fun e w' => e = .returned (.int .u64 (wn key k)) ∧ w' = wr) := by
        have := num_any _ _ wr HY
        rw [HWF.out k hlt] at this
        exact this
      have u1 : IntKind.u32.wrap (wn key k : Int) = (wn key k : Int) := by have := HWL.out k; rw [IntKind.wrap_u32]; omega
      have c3 := hA.cell0 k (by rw [prw_len]; omega)
      have c4 := hA.free0 k (by rw [prw_len]; omega)
      have hA2 : Hid (Ar (wr.setCell ⟨g0, k, none⟩ (.int .u32 (wn key k : Int))) g0 0 .u32 (prw key (k + 1))) := by
        have h := hA.set0 k (by rw [prw_len]; omega) (wn key k : Int)
        rw [prw_set] at h
        exact h
      have hB2 : Hid (Below g0 w (wr.setCell ⟨g0, k, none⟩ (.int .u32 (wn key k : Int)))) := hB.setCell (Nat.le_refl _) _
      clear HY hA
      generalize wn key k = x at *
      go_wp2_with (first
        | (go_at_call 49; refine (HN.out).mono ?_; rintro e w2 ⟨rfl, hw⟩; obtain rfl := hw.symm)
        | (go_at_call 50; refine (HCut.out _).mono ?_; rintro e w2 ⟨rfl, hw⟩; obtain rfl := hw.symm))
      go_roundw
      case rel => exact ⟨k + 1, by omega, by go_num, hA2.out, hB2.out⟩
      case measure => simp [intOf]; omega
    · have hk8 : k = 8 := by omega
      subst hk8
      have HA8 : Hid (Ar wr g0 0 .u32 (prw key 8)) := hA
      clear hA
      go_wp2
      go_loopw [6] (fun i wr => ∃ k : Nat, 8 ≤ k ∧ k ≤ 60 ∧ i = .int .i64 k ∧ Ar wr g0 0 .u32 (prw key k) ∧ Below g0 w wr) (fun i _ => 60 - (intOf i).toNat)
      case atStart => exact ⟨8, Nat.le_refl _, by omega, rfl, HA8.out, hB⟩
      case round =>
        obtain ⟨k, hk8, hk, rfl, hA, hB⟩ := hrel
        have k0 : (0 : Int) ≤ (k : Int) := by omega
        have q1 : IntKind.i64.wrap (k : Int) = k := by rw [IntKind.wrap_i64]; omega
        by_cases hlt : k < 60
        · have hgw : g0 < wr.heap.size := hA.lt (by rw [prw_len]; omega)
          obtain ⟨j8, hj8⟩ : ∃ j, j = k - 8 := ⟨_, rfl⟩
          obtain ⟨j1, hj1⟩ : ∃ j, j = k - 1 := ⟨_, rfl⟩
          have l8 : j8 < 60 := by omega
          have l1 : j1 < 60 := by omega
          have t8 : (k : Int) - 8 = (j8 : Int) := by omega
          have t1 : (k : Int) - 1 = (j1 : Int) := by omega
          have w8 : IntKind.i64.wrap (j8 : Int) = j8 := by rw [IntKind.wrap_i64]; omega
          have w1' : IntKind.i64.wrap (j1 : Int) = j1 := by rw [IntKind.wrap_i64]; omega
          have C8 : Hid (∀ w', Below wr.heap.size wr w' → w'.cell? ⟨g0, j8, none⟩ = some (.int .u32 (wn key j8 : Int))) := fun w' h => by
            have c := (hA.below h hgw).cell0 j8 (by rw [prw_len]; omega)
            rw [gb_prw _ _ _ l8, if_pos (by omega)] at c
            exact c
          have C1 : Hid (∀ w', Below wr.heap.size wr w' → w'.cell? ⟨g0, j1, none⟩ = some (.int .u32 (wn key j1 : Int))) := fun w' h => by
            have c := (hA.below h hgw).cell0 j1 (by rw [prw_len]; omega)
            rw [gb_prw _ _ _ l1, if_pos (by omega)] at c
            exact c
          have HST : Hid (∀ w', Below wr.heap.size wr w' → Calls Try.prog 51 #[.int .u32 (wn key j1 : Int), .int .i64 (k : Int)] w' fun e w'' => e = .returned (.int .u32 (stn k (wn key j1) : Int)) ∧ Below wr.heap.size wr w'') := fun w' h =>
            (stir_any _ k w' (HWL.out j1) hk8 hlt).mono fun e w'' h' => ⟨h'.1, h.trans (h'.2.mono h.size)⟩
          have hz0 : wn key k = wn key j8 ^^^ stn k (wn key j1) := by have := HWE.out k hk8; rw [← hj8, ← hj1] at this; exact this
          have st32 : stn k (wn key j1) < 4294967296 := by
            have h1 := HWL.out j1
            have h2 := wsum_lt (rl8 (wn key j1)) 4
            have h3 := wsum_lt (wn key j1) 4
            have h4 := pw_lt 2 (k / 8 - 1)
            unfold stn
            split
            · exact Nat.xor_lt_two_pow (n := 32) (by omega) (by omega)
            · split <;> omega
          have HZ : Hid (bits .xor .u32 (wn key j8 : Int) (stn k (wn key j1) : Int) = (wn key k : Int)) := by
            show _ = _
            rw [u32_xor_nat _ _ (HWL.out j8) st32, hz0]
          have HA : Hid (Ar wr g0 0 .u32 (prw key k)) := hA
          have HSet : Hid ((prw key k).set k (wn key k : Int) = prw key (k + 1)) := prw_set key k
          have HB : Hid (Below g0 w wr) := hB
          clear hA hB hz0 st32 hj8 hj1
          generalize wn key k = z at *
          generalize stn k (wn key j1) = s1 at *
          generalize wn key j1 = x1 at *
          generalize wn key j8 = x8 at *
          have k60 : (k : Int) < 60 := by omega
          go_wp2
          refine wp_region_any (by kernel_rfl) ?_
          refine wpAny_quiet_then (C := fun w' => Below wr.heap.size wr w') 0 16 1 _ (by kernel_rfl) rfl (by kernel_rfl) (by kernel_rfl) (Below.refl _ _).drew ?_
          simp only [List.take_succ_cons, List.take_zero, List.drop_zero]
          refine wpQuiet_step (fun K hK => ?_)
          refine q_val (by rfl) (some 27) rfl (.slice (some ⟨g0, 0, none⟩) 60 60) (fun w' _ => by rfl) (hK _ ?_)
          simp only [Act.put, List.setIfInBounds_toArray, List.set_cons_zero, List.set_cons_succ]
          clear hK K
          refine wpQuiet_step (fun K hK => ?_)
          refine q_val (by rfl) (some 28) rfl (.int .i64 (k : Int)) (fun w' _ => by rfl) (hK _ ?_)
          simp only [Act.put, List.setIfInBounds_toArray, List.set_cons_zero, List.set_cons_succ]
          clear hK K
          refine wpQuiet_step (fun K hK => ?_)
          refine q_val (by rfl) (some 29) rfl (.slice (some ⟨g0, 0, none⟩) 60 60) (fun w' _ => by rfl) (hK _ ?_)
          simp only [Act.put, List.setIfInBounds_toArray, List.set_cons_zero, List.set_cons_succ]
          clear hK K
          refine wpQuiet_step (fun K hK => ?_)
          refine q_val (by rfl) (some 30) rfl (.int .i64 (k : Int)) (fun w' _ => by rfl) (hK _ ?_)
          simp only [Act.put, List.setIfInBounds_toArray, List.set_cons_zero, List.set_cons_succ]
          clear hK K
          refine wpQuiet_step (fun K hK => ?_)
          refine q_val (by rfl) (some 31) rfl (.int .i64 (j8 : Int)) (fun w' _ => by go_simp) (hK _ ?_)
          simp only [Act.put, List.setIfInBounds_toArray, List.set_cons_zero, List.set_cons_succ]
          clear hK K
          refine wpQuiet_step (fun K hK => ?_)
          refine q_idxW (by rfl) (some 32) rfl (.tmp 29) (.tmp 31) rfl g0 0 60 60 j8 rfl rfl l8 j8 (by omega) (hK _ ?_)
          simp only [Act.put, List.setIfInBounds_toArray, List.set_cons_zero, List.set_cons_succ]
          clear hK K
          refine wpQuiet_step (fun K hK => ?_)
          refine q_get (by rfl) (some 33) rfl (.tmp 32) 54 rfl .u32 (x8 : Int) g0 j8 rfl Try.underlying54 C8.out (hK _ ?_)
          simp only [Act.put, List.setIfInBounds_toArray, List.set_cons_zero, List.set_cons_succ]
          clear hK K
          refine wpQuiet_step (fun K hK => ?_)
          refine q_val (by rfl) (some 34) rfl (.slice (some ⟨g0, 0, none⟩) 60 60) (fun w' _ => by rfl) (hK _ ?_)
          simp only [Act.put, List.setIfInBounds_toArray, List.set_cons_zero, List.set_cons_succ]
          clear hK K
          refine wpQuiet_step (fun K hK => ?_)
          refine q_val (by rfl) (some 35) rfl (.int .i64 (k : Int)) (fun w' _ => by rfl) (hK _ ?_)
          simp only [Act.put, List.setIfInBounds_toArray, List.set_cons_zero, List.set_cons_succ]
          clear hK K
          refine wpQuiet_step (fun K hK => ?_)
          refine q_val (by rfl) (some 36) rfl (.int .i64 (j1 : Int)) (fun w' _ => by go_simp) (hK _ ?_)
          simp only [Act.put, List.setIfInBounds_toArray, List.set_cons_zero, List.set_cons_succ]
          clear hK K
          refine wpQuiet_step (fun K hK => ?_)
          refine q_idxW (by rfl) (some 37) rfl (.tmp 34) (.tmp 36) rfl g0 0 60 60 j1 rfl rfl l1 j1 (by omega) (hK _ ?_)
          simp only [Act.put, List.setIfInBounds_toArray, List.set_cons_zero, List.set_cons_succ]
          clear hK K
          refine wpQuiet_step (fun K hK => ?_)
          refine q_get (by rfl) (some 38) rfl (.tmp 37) 54 rfl .u32 (x1 : Int) g0 j1 rfl Try.underlying54 C1.out (hK _ ?_)
          simp only [Act.put, List.setIfInBounds_toArray, List.set_cons_zero, List.set_cons_succ]
          clear hK K
          refine wpQuiet_step (fun K hK => ?_)
          refine q_val (by rfl) (some 39) rfl (.int .i64 (k : Int)) (fun w' _ => by rfl) (hK _ ?_)
          simp only [Act.put, List.setIfInBounds_toArray, List.set_cons_zero, List.set_cons_succ]
          clear hK K
          refine wpQuiet_step (fun K hK => ?_)
          refine q_call (by rfl) (some 40) rfl 51 #[.tmp 38, .tmp 39] #[54, 3] rfl (fun q w' => by rfl) #[.int .u32 (x1 : Int), .int .i64 (k : Int)] (by simp only [List.map_toArray, List.map_cons, List.map_nil]; rfl) (.int .u32 (s1 : Int)) HST.out (hK _ ?_)
          simp only [Act.put, List.setIfInBounds_toArray, List.set_cons_zero, List.set_cons_succ]
          clear hK K
          refine wpQuiet_step (fun K hK => ?_)
          refine q_val (by rfl) (some 41) rfl (.int .u32 (z : Int)) (fun w' _ => by (have hz := HZ.out; go_simp)) (hK _ ?_)
          simp only [Act.put, List.setIfInBounds_toArray, List.set_cons_zero, List.set_cons_succ]
          clear hK K
          refine wpQuiet_step (fun K hK => ?_)
          refine q_idxW (by rfl) (some 42) rfl (.tmp 27) (.tmp 28) rfl g0 0 60 60 k rfl rfl hlt k (by omega) (hK _ ?_)
          simp only [Act.put, List.setIfInBounds_toArray, List.set_cons_zero, List.set_cons_succ]
          clear hK K
          refine wpQuiet_nil ?_
          intro f w3 B3
          have A1 := HA.out.below B3 hgw
          have A2 := A1.set0 k (by rw [prw_len]; omega) (z : Int)
          rw [HSet.out] at A2
          have B2' : Below g0 w (w3.setCell ⟨g0, k, none⟩ (.int .u32 (z : Int))) := (HB.out.trans (B3.mono (by omega))).setCell (Nat.le_refl _) _
          refine wpAny_ready (rs := [16]) (by kernel_rfl) (by simp) ?_
          refine AllReady.cons rfl (fun K hK => ?_) AllReady.nil
          refine step_set _ rfl none rfl (.tmp 42) (.tmp 41) 54 rfl .u32 (z : Int) g0 k rfl rfl (by rw [A1.cell0 _ (by rw [prw_len]; omega)]; rfl) (A1.free0 _ (by rw [prw_len]; omega)) i_u32 (hK _ _ ?_)
          simp only [Act.put, List.setIfInBounds_toArray, List.set_cons_zero, List.set_cons_succ]
          have HA6 : Hid (Ar (w3.setCell ⟨g0, k, none⟩ (.int .u32 (z : Int))) g0 0 .u32 (prw key (k + 1))) := A2
          have HB6 : Hid (Below g0 w (w3.setCell ⟨g0, k, none⟩ (.int .u32 (z : Int)))) := B2'
          clear A1 A2 B2' B3
          generalize w3.setCell ⟨g0, k, none⟩ (.int .u32 (z : Int)) = w6 at *
          refine wpAny_done (by kernel_rfl) ?_ _
          go_wp2
          go_roundw
          case rel => exact ⟨k + 1, by omega, by omega, by go_num, HA6.out, HB6.out⟩
          case measure => simp [intOf]; omega
        · have hk60 : k = 60 := by omega
          subst hk60
          go_wp2
          go_ret2
          exact ⟨g0, rfl, hA, by omega, by rw [hg0]; exact hB⟩
end Go.Proofs.Ytjiddmgnkldmkaa
