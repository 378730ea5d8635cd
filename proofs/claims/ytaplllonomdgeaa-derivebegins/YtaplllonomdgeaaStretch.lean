/- What sha's stretch answers: a block's sixty-four words. No claim of its own. -/
import Derived.Test.YtaplllonomdgeaaArr
import Derived.Deep.RegionHeld3
namespace Go.Proofs.Ytaplllonomdgeaa
open Go.RowKit

/-- the block's word at t, of its bytes -/
def w0 (bs : List Int) (t : Nat) : Int := num (last8 ((bs.take (4 * (t + 1))).drop (4 * t))) % 4294967296
/-- the word that follows from those before -/
def wnext (l : List Int) (t : Nat) : Int := (((sg1 (gb l (t - 2)) + gb l (t - 7)) % 4294967296 + sg0 (gb l (t - 15))) % 4294967296 + gb l (t - 16)) % 4294967296
/-- the first t words -/
def sched (bs : List Int) : Nat → List Int
  | 0 => []
  | t + 1 => sched bs t ++ [if t < 16 then w0 bs t else wnext (sched bs t) t]
theorem sched_len (bs : List Int) (t : Nat) : (sched bs t).length = t := by
  induction t with
  | zero => rfl
  | succ t ih => simp [sched, ih]
/-- numbers of 32 bits -/
def AllW (xs : List Int) : Prop := ∀ j : Nat, W32 (gb xs j)
theorem allW_mem {xs : List Int} (h : ∀ x ∈ xs, W32 x) : AllW xs := by
  intro j
  by_cases hj : j < xs.length
  · have := h (xs[j]) (List.getElem_mem hj)
    simpa [gb, List.getD, hj] using this
  · simp [gb, List.getD, Nat.le_of_not_lt hj, W32]
theorem AllW.mem {xs : List Int} (h : AllW xs) : ∀ x ∈ xs, W32 x := by
  intro x hx
  obtain ⟨j, hj, rfl⟩ := List.getElem_of_mem hx
  have := h j
  simpa [gb, List.getD, hj] using this
theorem mod_w32 (x : Int) : W32 (x % 4294967296) := by unfold W32; omega
theorem sched_all (bs : List Int) (t : Nat) : AllW (sched bs t) := by
  induction t with
  | zero => exact allW_mem (by simp [sched])
  | succ t ih =>
    refine allW_mem fun x hx => ?_
    simp only [sched, List.mem_append, List.mem_singleton] at hx
    rcases hx with hx | rfl
    · exact ih.mem x hx
    · split <;> exact mod_w32 _
/-- the words so far, noughts behind them -/
def padw (bs : List Int) (t : Nat) : List Int := sched bs t ++ List.replicate (64 - t) 0
theorem padw_len (bs : List Int) (t : Nat) (h : t ≤ 64) : (padw bs t).length = 64 := by simp [padw, sched_len]; omega
theorem padw_gb (bs : List Int) (t j : Nat) (h : j < t) : gb (padw bs t) j = gb (sched bs t) j := by
  simp [gb, padw, List.getD, List.getElem?_append, sched_len, h]
theorem padw_set (bs : List Int) (t : Nat) (h : t < 64) (x : Int) (hx : x = if t < 16 then w0 bs t else wnext (sched bs t) t) : (padw bs t).set t x = padw bs (t + 1) := by
  unfold padw
  rw [List.set_append_right _ _ (by rw [sched_len]; omega), sched_len]
  obtain ⟨m, hm⟩ : ∃ m, 64 - t = m + 1 := ⟨63 - t, by omega⟩
  rw [hm, show 64 - (t + 1) = m by omega, Nat.sub_self, List.replicate_succ, List.set_cons_zero, sched, hx]
  simp
theorem padw_all (bs : List Int) (t : Nat) : AllW (padw bs t) := allW_mem fun x hx => by
  simp only [padw, List.mem_append, List.mem_replicate] at hx
  rcases hx with hx | ⟨_, rfl⟩
  · exact (sched_all bs t).mem x hx
  · unfold W32; omega
theorem padw_end (bs : List Int) : padw bs 64 = sched bs 64 := by simp [padw]
theorem padw_next (bs : List Int) (t : Nat) (h : 16 ≤ t) : wnext (sched bs t) t = wnext (padw bs t) t := by
  unfold wnext
  rw [padw_gb bs t _ (by omega), padw_gb bs t _ (by omega), padw_gb bs t _ (by omega), padw_gb bs t _ (by omega)]

section
variable {ops : Array Oper} {rest : List Oper} {o : Oper} {a : Act} {Q : Exit → Act → World → Prop}
theorem und_arr64b : Try.prog.underlying 42 = some (.array (Try.prog.arrayLen 42) (Try.prog.elem 42)) := by kernel_rfl
theorem len_arr64b : Try.prog.arrayLen 42 = 64 := by kernel_rfl
theorem elem_arr64b : Try.prog.elem 42 = 5 := by kernel_rfl
/-- the bytes of a row, as a slice -/
theorem Ar.byt {w : World} {b p : Nat} {xs : List Int} (h : Ar w b p .u8 xs) (ha : AllB xs) (l m c : Nat) (hl : l ≤ m) (hm : m ≤ xs.length) (hc : m - l ≤ c) (hc2 : c ≤ 9223372036854775807) : Byt w (.slice (some ⟨b, p + l, none⟩) (m - l) c) ((xs.take m).drop l) := by
  have hlen : ((xs.take m).drop l).length = m - l := by simp; omega
  refine ⟨some ⟨b, p + l, none⟩, c, by rw [hlen], by omega, hc2, allB_mem fun x hx => ?_, (by intro h; cases h), fun hp => ⟨b, p + l, rfl, fun t ht => ?_⟩⟩
  · obtain ⟨j, hj, rfl⟩ := List.getElem_of_mem hx
    have := ha (l + j)
    have e := gb_cut xs l m j (by omega)
    rw [← e] at this
    have e2 : gb ((xs.take m).drop l) j = ((xs.take m).drop l)[j] := by unfold gb; rw [List.getD_eq_getElem?_getD, List.getElem?_eq_getElem hj]; rfl
    rwa [e2] at this
  · rw [gb_cut xs l m t (by omega), Nat.add_assoc]
    exact h.cell (l + t) (by omega)
/-- 'b[l:h]' of an array of 64 bytes -/
theorem arr_part (w : World) (hg : o.guard = none) (s x y : Operand) (hop : o.op = Op.slice 42 s (some x) (some y) none) (b p : Nat) (xs : List Int) (L H : Int) (l h : Nat)
    (hs : a.eval s = .pointer (some ⟨b, p, none⟩)) (hx : a.eval x = .int .i64 L) (hy : a.eval y = .int .i64 H) (hL : L = (l : Int)) (hH : H = (h : Int)) (hl : l ≤ h) (hl' : l < 64) (hh : h ≤ 64) (hn : xs.length = 64) (hb : Ar w b p .u8 xs) (ha : AllB xs)
    (hK : ∀ v', Byt w v' ((xs.take h).drop l) → wpList Try.prog ops Q rest (a.put o.dst v') w) :
    wpList Try.prog ops Q (o :: rest) a w := by
  refine wpList_plain hg fun K hK' => ?_
  have hrun := run_sliceAt_array_lh (P := Try.prog) w 42 ⟨b, p, none⟩ und_arr64b .i64 .i64 L H (by omega) (by omega) (by rw [len_arr64b]; omega)
  rw [elem_arr64b, run_size_u8] at hrun
  subst hL
  subst hH
  unfold Oper.wp execOp
  simp only [hop, hs, hx, hy, Option.map, Sem.run_bind, Sem.run_pure, hrun, Result.andThen, len_arr64b, Int.toNat_natCast]
  have hv : slicedAt ⟨b, p, none⟩ l h 64 1 = .slice (some ⟨b, p + l, none⟩) (h - l) (64 - l) := by
    unfold slicedAt
    rw [if_neg (by omega), Nat.mul_one, Addr.add_mid]
  rw [hv]
  exact hK' _ _ (hK _ (hb.byt ha l h (64 - l) hl (by omega) (by omega) (by omega)))
/-- 'b[l:]' of an array of 64 bytes, to be written -/
theorem arr_from (w : World) (hg : o.guard = none) (s x : Operand) (hop : o.op = Op.slice 42 s (some x) none none) (b p : Nat) (L : Int) (l : Nat)
    (hs : a.eval s = .pointer (some ⟨b, p, none⟩)) (hx : a.eval x = .int .i64 L) (hL : L = (l : Int)) (hl' : l < 64)
    (hK : wpList Try.prog ops Q rest (a.put o.dst (.slice (some ⟨b, p + l, none⟩) (64 - l) (64 - l))) w) :
    wpList Try.prog ops Q (o :: rest) a w := by
  refine wpList_plain hg fun K hK' => ?_
  have hrun := run_sliceAt_array_l (P := Try.prog) w 42 ⟨b, p, none⟩ und_arr64b .i64 L (by omega) (by rw [len_arr64b]; omega)
  rw [elem_arr64b, run_size_u8] at hrun
  subst hL
  unfold Oper.wp execOp
  simp only [hop, hs, hx, Option.map, Sem.run_bind, Sem.run_pure, hrun, Result.andThen, len_arr64b, Int.toNat_natCast]
  have hv : slicedAt ⟨b, p, none⟩ l 64 64 1 = .slice (some ⟨b, p + l, none⟩) (64 - l) (64 - l) := by
    unfold slicedAt
    rw [if_neg (by omega), Nat.mul_one, Addr.add_mid]
  rw [hv]
  exact hK' _ _ hK
end

theorem cell_set_off {w : World} {b i j : Nat} {v u : Value} (h : ¬ i = j) (hc : w.cell? ⟨b, j, none⟩ = some u) : (w.setCell ⟨b, i, none⟩ v).drew.cell? ⟨b, j, none⟩ = some u := by
  rw [World.cell?_drew, World.cell?_setCell_other _ _ _ _ (by intro e; injection e with _ e2; exact h e2)]; exact hc

set_option maxRecDepth 100000 in
set_option maxHeartbeats 4000000 in
theorem stretch_any (bs : List Int) (w : World) (hb : AllB bs) (hl : bs.length = 64) :
    Calls Try.prog 49 #[.agg (ints .u8 bs)] w fun e w' => e = .returned (.agg (ints .u32 (sched bs 64))) ∧ Below w.heap.size w w' := by
  have HB : Hid (AllB bs) := hb
  have HL : Hid (bs.length = 64) := hl
  obtain ⟨g, hg⟩ : ∃ g, g = w.heap.size := ⟨_, rfl⟩
  clear hb hl
  go_enter Try.func49, Try.ntmps49
  go_wp2_with (first
    | (refine box_law _ rfl (.tmp 0) 42 rfl .u8 bs rfl ?_)
    | (refine new_law _ rfl 69 rfl .u32 z64 z_arr64w ?_))
  have A0 : Ar (((w.alloc (Obj.cells (ints IntKind.u8 bs) 42)).alloc (Obj.cells (ints IntKind.u32 z64) 69)).alloc (Obj.cells (ints IntKind.u32 z64) 69)) w.heap.size 0 .u8 bs := ((Ar.new w _ _ _).alloc _).alloc _
  have A1 : Ar (((w.alloc (Obj.cells (ints IntKind.u8 bs) 42)).alloc (Obj.cells (ints IntKind.u32 z64) 69)).alloc (Obj.cells (ints IntKind.u32 z64) 69)) (w.heap.size + 1) 0 .u32 z64 := by
    have := (Ar.new (w.alloc (Obj.cells (ints IntKind.u8 bs) 42)) 69 .u32 z64).alloc (Obj.cells (ints IntKind.u32 z64) 69)
    simpa using this
  have A2 : Ar (((w.alloc (Obj.cells (ints IntKind.u8 bs) 42)).alloc (Obj.cells (ints IntKind.u32 z64) 69)).alloc (Obj.cells (ints IntKind.u32 z64) 69)) (w.heap.size + 1 + 1) 0 .u32 z64 := by
    have := Ar.new ((w.alloc (Obj.cells (ints IntKind.u8 bs) 42)).alloc (Obj.cells (ints IntKind.u32 z64) 69)) 69 .u32 z64
    simpa using this
  have B0 : Below w.heap.size w (((w.alloc (Obj.cells (ints IntKind.u8 bs) 42)).alloc (Obj.cells (ints IntKind.u32 z64) 69)).alloc (Obj.cells (ints IntKind.u32 z64) 69)) := (((Below.refl _ _).alloc (Nat.le_refl _) _).alloc (by simp) _).alloc (by simp; omega) _
  generalize ((w.alloc (Obj.cells (ints IntKind.u8 bs) 42)).alloc (Obj.cells (ints IntKind.u32 z64) 69)).alloc (Obj.cells (ints IntKind.u32 z64) 69) = w3 at A0 A1 A2 B0 ⊢
  go_loopw [6] (fun i wr => ∃ k : Nat, k ≤ 16 ∧ i = .int .i64 k ∧ Ar wr w.heap.size 0 .u8 bs ∧ Ar wr (w.heap.size + 1) 0 .u32 z64 ∧ Ar wr (w.heap.size + 1 + 1) 0 .u32 (padw bs k) ∧ Below w.heap.size w wr) (fun i _ => 16 - (intOf i).toNat)
  case atStart => exact ⟨0, by omega, rfl, A0, A1, A2, B0⟩
  case round =>
    clear A0 A1 A2 B0
    obtain ⟨k, hk, rfl, A0, A1, A2, B0⟩ := hrel
    by_cases hlt : k < 16
    · have c1 := A2.cell0 k (by rw [padw_len bs k (by omega)]; omega)
      have c2 := A2.free0 k (by rw [padw_len bs k (by omega)]; omega)
      have A2' := A2.set0 k (by rw [padw_len bs k (by omega)]; omega) (w0 bs k)
      rw [padw_set bs k (by omega) _ (by rw [if_pos hlt])] at A2'
      have E0 : Hid (IntKind.u32.wrap (num (last8 ((bs.take (4 * (k + 1))).drop (4 * k)))) = w0 bs k) := IntKind.wrap_u32 _
      go_wp2_with (first
        | (refine arr_part _ rfl (.tmp 1) (.tmp 11) (.tmp 14) rfl _ _ bs _ _ (4 * k) (4 * (k + 1)) rfl rfl rfl (by omega) (by omega) (by omega) (by omega) (by omega) HL.out A0 HB.out ?_; intro v' hv')
        | (go_at_call 56; refine (num_any _ _ _ hv').mono ?_; rintro e w' ⟨rfl, hw⟩; obtain rfl := hw.symm; generalize num (last8 ((bs.take (4 * (k + 1))).drop (4 * k))) = nm at *; have e1 := E0.out; have e2 : nm % 4294967296 = w0 bs k := by rw [← e1, IntKind.wrap_u32]))
      go_roundw
      case rel => exact ⟨k + 1, by omega, by go_num, A0.other (by show _ ≠ _; simp; omega) _, A1.other (by show _ ≠ _; simp) _, A2', B0.setCell (by show _ ≤ _; simp; omega) _⟩
      case measure => simp [intOf]; omega
    · have : k = 16 := by omega
      subst this
      go_wp2
      clear hlt hk
      go_loopw [5] (fun i wr => ∃ k : Nat, 16 ≤ k ∧ k ≤ 64 ∧ i = .int .i64 k ∧ Ar wr w.heap.size 0 .u8 bs ∧ Ar wr (w.heap.size + 1) 0 .u32 z64 ∧ Ar wr (w.heap.size + 1 + 1) 0 .u32 (padw bs k) ∧ Below w.heap.size w wr) (fun i _ => 64 - (intOf i).toNat)
      case atStart => exact ⟨16, by omega, by omega, rfl, A0, A1, A2, B0⟩
      case round =>
        clear A0 A1 A2 B0
        obtain ⟨k, hk0, hk, rfl, A0, A1, A2, B0⟩ := hrel
        by_cases hlt : k < 64
        · have c1 := A2.cell0 k (by rw [padw_len bs k (by omega)]; omega)
          have c2 := A2.free0 k (by rw [padw_len bs k (by omega)]; omega)
          have d1 := A2.cell0 (k - 2) (by rw [padw_len bs k (by omega)]; omega)
          have d2 := A2.cell0 (k - 7) (by rw [padw_len bs k (by omega)]; omega)
          have d3 := A2.cell0 (k - 15) (by rw [padw_len bs k (by omega)]; omega)
          have d4 := A2.cell0 (k - 16) (by rw [padw_len bs k (by omega)]; omega)
          have A2' := A2.set0 k (by rw [padw_len bs k (by omega)]; omega) (wnext (padw bs k) k)
          rw [padw_set bs k (by omega) _ (by rw [if_neg (by omega), padw_next bs k (by omega)])] at A2'
          have W2 : Hid (W32 (gb (padw bs k) (k - 2))) := padw_all bs k _
          have W15 : Hid (W32 (gb (padw bs k) (k - 15))) := padw_all bs k _
          have EN : Hid (wnext (padw bs k) k = (((sg1 (gb (padw bs k) (k - 2)) + gb (padw bs k) (k - 7)) % 4294967296 + sg0 (gb (padw bs k) (k - 15))) % 4294967296 + gb (padw bs k) (k - 16)) % 4294967296) := rfl
          generalize wnext (padw bs k) k = nx at *
          generalize gb (padw bs k) (k - 2) = x2 at *
          generalize gb (padw bs k) (k - 7) = x7 at *
          generalize gb (padw bs k) (k - 15) = x15 at *
          generalize gb (padw bs k) (k - 16) = x16 at *
          generalize gb (padw bs k) k = x0 at *
          obtain ⟨j2, e2⟩ : ∃ j, j = k - 2 := ⟨_, rfl⟩
          rw [← e2] at d1
          have s2 : (k : Int) - 2 = (j2 : Int) := by omega
          have q2 : (j2 : Int) < 64 := by omega
          have m2 : ¬ k = j2 := by omega
          have n2 : ¬ j2 = k := by omega
          have p2 : IntKind.i64.wrap (j2 : Int) = j2 := by rw [IntKind.wrap_i64]; omega
          have z2 : (0 : Int) ≤ j2 := by omega
          clear e2
          obtain ⟨j7, e7⟩ : ∃ j, j = k - 7 := ⟨_, rfl⟩
          rw [← e7] at d2
          have s7 : (k : Int) - 7 = (j7 : Int) := by omega
          have q7 : (j7 : Int) < 64 := by omega
          have m7 : ¬ k = j7 := by omega
          have n7 : ¬ j7 = k := by omega
          have p7 : IntKind.i64.wrap (j7 : Int) = j7 := by rw [IntKind.wrap_i64]; omega
          have z7 : (0 : Int) ≤ j7 := by omega
          clear e7
          obtain ⟨j15, e15⟩ : ∃ j, j = k - 15 := ⟨_, rfl⟩
          rw [← e15] at d3
          have s15 : (k : Int) - 15 = (j15 : Int) := by omega
          have q15 : (j15 : Int) < 64 := by omega
          have m15 : ¬ k = j15 := by omega
          have n15 : ¬ j15 = k := by omega
          have p15 : IntKind.i64.wrap (j15 : Int) = j15 := by rw [IntKind.wrap_i64]; omega
          have z15 : (0 : Int) ≤ j15 := by omega
          clear e15
          obtain ⟨j16, e16⟩ : ∃ j, j = k - 16 := ⟨_, rfl⟩
          rw [← e16] at d4
          have s16 : (k : Int) - 16 = (j16 : Int) := by omega
          have q16 : (j16 : Int) < 64 := by omega
          have m16 : ¬ k = j16 := by omega
          have n16 : ¬ j16 = k := by omega
          have p16 : IntKind.i64.wrap (j16 : Int) = j16 := by rw [IntKind.wrap_i64]; omega
          have z16 : (0 : Int) ≤ j16 := by omega
          clear e16
          have q0 : (k : Int) < 64 := by omega
          go_wp2
          go_region_held3 (fun w' => w'.cell? ⟨w.heap.size + 1 + 1, j2, none⟩ = some (.int .u32 x2) ∧ w'.cell? ⟨w.heap.size + 1 + 1, j7, none⟩ = some (.int .u32 x7) ∧ w'.cell? ⟨w.heap.size + 1 + 1, j15, none⟩ = some (.int .u32 x15) ∧ w'.cell? ⟨w.heap.size + 1 + 1, j16, none⟩ = some (.int .u32 x16))
            (first | exact ⟨cell_set_off (w := wr) m2 d1, cell_set_off (w := wr) m7 d2, cell_set_off (w := wr) m15 d3, cell_set_off (w := wr) m16 d4⟩ | go_keep)
            (first
              | (go_at_call 57; refine (smallSigma1_any _ _ W2.out).mono ?_; rintro e w' ⟨rfl, hw⟩; obtain rfl := hw.symm)
              | (go_at_call 58; refine (smallSigma0_any _ _ W15.out).mono ?_; rintro e w' ⟨rfl, hw⟩; obtain rfl := hw.symm))
          have EV : nx = IntKind.u32.wrap (IntKind.u32.wrap (IntKind.u32.wrap (sg1 x2 + x7) + sg0 x15) + x16) := by
            rw [EN.out]; simp only [IntKind.wrap_u32]
          rw [EV] at A2'
          go_wp2
          go_roundw
          case rel =>
            iterate 28 (apply Exists.intro)
            refine ⟨?_, rfl⟩
            exact ⟨k + 1, by omega, by omega, by go_num, (A0.other (by show _ ≠ _; simp; omega) _).heap rfl, (A1.other (by show _ ≠ _; simp) _).heap rfl, A2'.heap rfl, (B0.setCell (by show _ ≤ _; simp; omega) _).drew⟩
          case measure => simp [intOf]; omega
        · have : k = 64 := by omega
          subst this
          rw [padw_end] at A2
          have HT : Hid (wr.there (w.heap.size + 1) 0 (sched bs 64).length) := by
            show World.there _ _ _ _
            rw [sched_len]; exact A1.2
          have H64 : Hid ((sched bs 64).length = 64) := sched_len bs 64
          obtain ⟨sc, hsc⟩ : ∃ sc, sc = sched bs 64 := ⟨_, rfl⟩
          rw [← hsc] at A2 HT H64
          have HSC : Hid (sc = sched bs 64) := hsc
          clear hsc
          go_wp2_with (first
            | (refine load_law _ rfl (.tmp 3) 69 rfl .u32 sc _ _ rfl A2 64 59 Try.underlying69 i_arr64w H64.out ?_)
            | (refine store_law _ rfl (.tmp 2) (.tmp 47) 69 rfl .u32 sc _ _ rfl rfl HT.out 64 i_arr64w H64.out ?_))
          refine bodyPost_ret (v := .agg (ints .u32 sc)) (results_ar rfl _ _ (w.heap.size + 1) 0 .u32 sc rfl (Ar.whole HT.out) 64 59 Try.underlying69 i_arr64w H64.out) rfl ⟨by rw [HSC.out], ?_⟩
          exact Lib.below_setCells _ (by omega) _ _ B0
end Go.Proofs.Ytaplllonomdgeaa
