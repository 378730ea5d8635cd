/- Texts put together (a claim holds few files). No claim of its own. -/
import Derived.Test.YtmbfccclghnaeaaDoorPackK
import Derived.Deep.RegionHeld3
import Derived.Deep.DeepCutAuto
/- What sha's stretch answers: a block's sixty-four words. No claim of its own. -/
namespace Go.Proofs.YtmbfccclghnaeaaDoor.mc
open Go.RowKit
set_option maxRecDepth 20000

/-- the block's word at t, of its bytes -/
def w0 (bs : List Int) (t : Nat) : Int := num (last8 ((bs.take (4 * (t + 1))).drop (4 * t))) % 4294967296
/-- the word that follows from those before -/
def wnext (l : List Int) (t : Nat) : Int := (((sg1 (gb l (t - 2)) + gb l (t - 7)) % 4294967296 + sg0 (gb l (t - 15))) % 4294967296 + gb l (t - 16)) % 4294967296
/-- the first t words -/
def sched (bs : List Int) : Nat → List Int
  | 0 => []
  | t + 1 => sched bs t ++ [if t < 16 then w0 bs t else wnext (sched bs t) t]
theorem sched_len (bs : List Int) (t : Nat) : (sched bs t).length = t := by
  induction t with
  | zero => rfl
  | succ t ih => simp [sched, ih]
/-- numbers of 32 bits -/
def AllW (xs : List Int) : Prop := ∀ j : Nat, W32 (gb xs j)
theorem allW_mem {xs : List Int} (h : ∀ x ∈ xs, W32 x) : AllW xs := by
  intro j
  by_cases hj : j < xs.length
  · have := h (xs[j]) (List.getElem_mem hj)
    simpa [gb, List.getD, hj] using this
  · simp [gb, List.getD, Nat.le_of_not_lt hj, W32]
theorem AllW.mem {xs : List Int} (h : AllW xs) : ∀ x ∈ xs, W32 x := by
  intro x hx
  obtain ⟨j, hj, rfl⟩ := List.getElem_of_mem hx
  have := h j
  simpa [gb, List.getD, hj] using this
theorem mod_w32 (x : Int) : W32 (x % 4294967296) := by unfold W32; omega
theorem sched_all (bs : List Int) (t : Nat) : AllW (sched bs t) := by
  induction t with
  | zero => exact allW_mem (by simp [sched])
  | succ t ih =>
    refine allW_mem fun x hx => ?_
    simp only [sched, List.mem_append, List.mem_singleton] at hx
    rcases hx with hx | rfl
    · exact ih.mem x hx
    · split <;> exact mod_w32 _
/-- the words so far, noughts behind them -/
def padw (bs : List Int) (t : Nat) : List Int := sched bs t ++ List.replicate (64 - t) 0
theorem padw_len (bs : List Int) (t : Nat) (h : t ≤ 64) : (padw bs t).length = 64 := by simp [padw, sched_len]; omega
theorem padw_gb (bs : List Int) (t j : Nat) (h : j < t) : gb (padw bs t) j = gb (sched bs t) j := by
  simp [gb, padw, List.getD, List.getElem?_append, sched_len, h]
theorem padw_set (bs : List Int) (t : Nat) (h : t < 64) (x : Int) (hx : x = if t < 16 then w0 bs t else wnext (sched bs t) t) : (padw bs t).set t x = padw bs (t + 1) := by
  unfold padw
  rw [List.set_append_right _ _ (by rw [sched_len]; omega), sched_len]
  obtain ⟨m, hm⟩ : ∃ m, 64 - t = m + 1 := ⟨63 - t, by omega⟩
  rw [hm, show 64 - (t + 1) = m by omega, Nat.sub_self, List.replicate_succ, List.set_cons_zero, sched, hx]
  simp
theorem padw_all (bs : List Int) (t : Nat) : AllW (padw bs t) := allW_mem fun x hx => by
  simp only [padw, List.mem_append, List.mem_replicate] at hx
  rcases hx with hx | ⟨_, rfl⟩
  · exact (sched_all bs t).mem x hx
  · unfold W32; omega
theorem padw_end (bs : List Int) : padw bs 64 = sched bs 64 := by simp [padw]
theorem padw_next (bs : List Int) (t : Nat) (h : 16 ≤ t) : wnext (sched bs t) t = wnext (padw bs t) t := by
  unfold wnext
  rw [padw_gb bs t _ (by omega), padw_gb bs t _ (by omega), padw_gb bs t _ (by omega), padw_gb bs t _ (by omega)]

section
variable {ops : Array Oper} {rest : List Oper} {o : Oper} {a : Act} {Q : Exit → Act → World → Prop}
theorem und_arr64b : Tryd.prog.underlying 96 = some (.array (Tryd.prog.arrayLen 96) (Tryd.prog.elem 96)) := by kernel_rfl
theorem len_arr64b : Tryd.prog.arrayLen 96 = 64 := by kernel_rfl
theorem elem_arr64b : Tryd.prog.elem 96 = 5 := by kernel_rfl
/-- the bytes of a row, as a slice -/
theorem Ar.byt {w : World} {b p : Nat} {xs : List Int} (h : Ar w b p .u8 xs) (ha : AllB xs) (l m c : Nat) (hl : l ≤ m) (hm : m ≤ xs.length) (hc : m - l ≤ c) (hc2 : c ≤ 9223372036854775807) : Byt w (.slice (some ⟨b, p + l, none⟩) (m - l) c) ((xs.take m).drop l) := by
  have hlen : ((xs.take m).drop l).length = m - l := by simp; omega
  refine ⟨some ⟨b, p + l, none⟩, c, by rw [hlen], by omega, hc2, allB_mem fun x hx => ?_, (by intro h; cases h), fun hp => ⟨b, p + l, rfl, fun t ht => ?_⟩⟩
  · obtain ⟨j, hj, rfl⟩ := List.getElem_of_mem hx
    have := ha (l + j)
    have e := gb_cut xs l m j (by omega)
    rw [← e] at this
    have e2 : gb ((xs.take m).drop l) j = ((xs.take m).drop l)[j] := by unfold gb; rw [List.getD_eq_getElem?_getD, List.getElem?_eq_getElem hj]; rfl
    rwa [e2] at this
  · rw [gb_cut xs l m t (by omega), Nat.add_assoc]
    exact h.cell (l + t) (by omega)
/-- 'b[l:h]' of an array of 64 bytes -/
theorem arr_part (w : World) (hg : o.guard = none) (s x y : Operand) (hop : o.op = Op.slice 96 s (some x) (some y) none) (b p : Nat) (xs : List Int) (L H : Int) (l h : Nat)
    (hs : a.eval s = .pointer (some ⟨b, p, none⟩)) (hx : a.eval x = .int .i64 L) (hy : a.eval y = .int .i64 H) (hL : L = (l : Int)) (hH : H = (h : Int)) (hl : l ≤ h) (hl' : l < 64) (hh : h ≤ 64) (hn : xs.length = 64) (hb : Ar w b p .u8 xs) (ha : AllB xs)
    (hK : ∀ v', Byt w v' ((xs.take h).drop l) → wpList Tryd.prog ops Q rest (a.put o.dst v') w) :
    wpList Tryd.prog ops Q (o :: rest) a w := by
  refine wpList_plain hg fun K hK' => ?_
  have hrun := run_sliceAt_array_lh (P := Tryd.prog) w 96 ⟨b, p, none⟩ und_arr64b .i64 .i64 L H (by omega) (by omega) (by rw [len_arr64b]; omega)
  rw [elem_arr64b, run_size_u8] at hrun
  subst hL
  subst hH
  unfold Oper.wp execOp
  simp only [hop, hs, hx, hy, Option.map, Sem.run_bind, Sem.run_pure, hrun, Result.andThen, len_arr64b, Int.toNat_natCast]
  have hv : slicedAt ⟨b, p, none⟩ l h 64 1 = .slice (some ⟨b, p + l, none⟩) (h - l) (64 - l) := by
    unfold slicedAt
    rw [if_neg (by omega), Nat.mul_one, Addr.add_mid]
  rw [hv]
  exact hK' _ _ (hK _ (hb.byt ha l h (64 - l) hl (by omega) (by omega) (by omega)))
/-- 'b[l:]' of an array of 64 bytes, to be written -/
theorem arr_from (w : World) (hg : o.guard = none) (s x : Operand) (hop : o.op = Op.slice 96 s (some x) none none) (b p : Nat) (L : Int) (l : Nat)
    (hs : a.eval s = .pointer (some ⟨b, p, none⟩)) (hx : a.eval x = .int .i64 L) (hL : L = (l : Int)) (hl' : l < 64)
    (hK : wpList Tryd.prog ops Q rest (a.put o.dst (.slice (some ⟨b, p + l, none⟩) (64 - l) (64 - l))) w) :
    wpList Tryd.prog ops Q (o :: rest) a w := by
  refine wpList_plain hg fun K hK' => ?_
  have hrun := run_sliceAt_array_l (P := Tryd.prog) w 96 ⟨b, p, none⟩ und_arr64b .i64 L (by omega) (by rw [len_arr64b]; omega)
  rw [elem_arr64b, run_size_u8] at hrun
  subst hL
  unfold Oper.wp execOp
  simp only [hop, hs, hx, Option.map, Sem.run_bind, Sem.run_pure, hrun, Result.andThen, len_arr64b, Int.toNat_natCast]
  have hv : slicedAt ⟨b, p, none⟩ l 64 64 1 = .slice (some ⟨b, p + l, none⟩) (64 - l) (64 - l) := by
    unfold slicedAt
    rw [if_neg (by omega), Nat.mul_one, Addr.add_mid]
  rw [hv]
  exact hK' _ _ hK
end

theorem cell_set_off {w : World} {b i j : Nat} {v u : Value} (h : ¬ i = j) (hc : w.cell? ⟨b, j, none⟩ = some u) : (w.setCell ⟨b, i, none⟩ v).drew.cell? ⟨b, j, none⟩ = some u := by
  rw [World.cell?_drew, World.cell?_setCell_other _ _ _ _ (by intro e; injection e with _ e2; exact h e2)]; exact hc

set_option maxRecDepth 100000 in
set_option maxHeartbeats 4000000 in
theorem stretch_any (bs : List Int) (w : World) (hb : AllB bs) (hl : bs.length = 64) :
    Calls Tryd.prog 85 #[.agg (ints .u8 bs)] w fun e w' => e = .returned (.agg (ints .u32 (sched bs 64))) ∧ Below w.heap.size w w' := by
  have HB : Hid (AllB bs) := hb
  have HL : Hid (bs.length = 64) := hl
  obtain ⟨g, hg⟩ : ∃ g, g = w.heap.size := ⟨_, rfl⟩
  clear hb hl
  go_enter Tryd.func85, Tryd.ntmps85
  go_wp2_with (first
    | (refine box_law _ rfl (.tmp 0) 96 rfl .u8 bs rfl ?_)
    | (refine new_law _ rfl 117 rfl .u32 z64 z_arr64w ?_))
  have A0 : Ar (((w.alloc (Obj.cells (ints IntKind.u8 bs) 96)).alloc (Obj.cells (ints IntKind.u32 z64) 117)).alloc (Obj.cells (ints IntKind.u32 z64) 117)) w.heap.size 0 .u8 bs := ((Ar.new w _ _ _).alloc _).alloc _
  have A1 : Ar (((w.alloc (Obj.cells (ints IntKind.u8 bs) 96)).alloc (Obj.cells (ints IntKind.u32 z64) 117)).alloc (Obj.cells (ints IntKind.u32 z64) 117)) (w.heap.size + 1) 0 .u32 z64 := by
    have := (Ar.new (w.alloc (Obj.cells (ints IntKind.u8 bs) 96)) 117 .u32 z64).alloc (Obj.cells (ints IntKind.u32 z64) 117)
    simpa using this
  have A2 : Ar (((w.alloc (Obj.cells (ints IntKind.u8 bs) 96)).alloc (Obj.cells (ints IntKind.u32 z64) 117)).alloc (Obj.cells (ints IntKind.u32 z64) 117)) (w.heap.size + 1 + 1) 0 .u32 z64 := by
    have := Ar.new ((w.alloc (Obj.cells (ints IntKind.u8 bs) 96)).alloc (Obj.cells (ints IntKind.u32 z64) 117)) 117 .u32 z64
    simpa using this
  have B0 : Below w.heap.size w (((w.alloc (Obj.cells (ints IntKind.u8 bs) 96)).alloc (Obj.cells (ints IntKind.u32 z64) 117)).alloc (Obj.cells (ints IntKind.u32 z64) 117)) := (((Below.refl _ _).alloc (Nat.le_refl _) _).alloc (by simp) _).alloc (by simp; omega) _
  generalize ((w.alloc (Obj.cells (ints IntKind.u8 bs) 96)).alloc (Obj.cells (ints IntKind.u32 z64) 117)).alloc (Obj.cells (ints IntKind.u32 z64) 117) = w3 at A0 A1 A2 B0 ⊢
  go_loopw [6] (fun i wr => ∃ k : Nat, k ≤ 16 ∧ i = .int .i64 k ∧ Ar wr w.heap.size 0 .u8 bs ∧ Ar wr (w.heap.size + 1) 0 .u32 z64 ∧ Ar wr (w.heap.size + 1 + 1) 0 .u32 (padw bs k) ∧ Below w.heap.size w wr) (fun i _ => 16 - (intOf i).toNat)
  case atStart => exact ⟨0, by omega, rfl, A0, A1, A2, B0⟩
  case round =>
    clear A0 A1 A2 B0
    obtain ⟨k, hk, rfl, A0, A1, A2, B0⟩ := hrel
    by_cases hlt : k < 16
    · have c1 := A2.cell0 k (by rw [padw_len bs k (by omega)]; omega)
      have c2 := A2.free0 k (by rw [padw_len bs k (by omega)]; omega)
      have A2' := A2.set0 k (by rw [padw_len bs k (by omega)]; omega) (w0 bs k)
      rw [padw_set bs k (by omega) _ (by rw [if_pos hlt])] at A2'
      have E0 : Hid (IntKind.u32.wrap (num (last8 ((bs.take (4 * (k + 1))).drop (4 * k)))) = w0 bs k) := IntKind.wrap_u32 _
      go_wp2_with (first
        | (refine arr_part _ rfl (.tmp 1) (.tmp 11) (.tmp 14) rfl _ _ bs _ _ (4 * k) (4 * (k + 1)) rfl rfl rfl (by omega) (by omega) (by omega) (by omega) (by omega) HL.out A0 HB.out ?_; intro v' hv')
        | (go_at_call 37; refine (num_any _ _ _ hv').mono ?_; rintro e w' ⟨rfl, hw⟩; obtain rfl := hw.symm; generalize num (last8 ((bs.take (4 * (k + 1))).drop (4 * k))) = nm at *; have e1 := E0.out; have e2 : nm % 4294967296 = w0 bs k := by rw [← e1, IntKind.wrap_u32]))
      go_roundw
      case rel => exact ⟨k + 1, by omega, by go_num, A0.other (by show _ ≠ _; simp; omega) _, A1.other (by show _ ≠ _; simp) _, A2', B0.setCell (by show _ ≤ _; simp; omega) _⟩
      case measure => simp [intOf]; omega
    · have : k = 16 := by omega
      subst this
      go_wp2
      clear hlt hk
      go_loopw [5] (fun i wr => ∃ k : Nat, 16 ≤ k ∧ k ≤ 64 ∧ i = .int .i64 k ∧ Ar wr w.heap.size 0 .u8 bs ∧ Ar wr (w.heap.size + 1) 0 .u32 z64 ∧ Ar wr (w.heap.size + 1 + 1) 0 .u32 (padw bs k) ∧ Below w.heap.size w wr) (fun i _ => 64 - (intOf i).toNat)
      case atStart => exact ⟨16, by omega, by omega, rfl, A0, A1, A2, B0⟩
      case round =>
        clear A0 A1 A2 B0
        obtain ⟨k, hk0, hk, rfl, A0, A1, A2, B0⟩ := hrel
        by_cases hlt : k < 64
        · have c1 := A2.cell0 k (by rw [padw_len bs k (by omega)]; omega)
          have c2 := A2.free0 k (by rw [padw_len bs k (by omega)]; omega)
          have d1 := A2.cell0 (k - 2) (by rw [padw_len bs k (by omega)]; omega)
          have d2 := A2.cell0 (k - 7) (by rw [padw_len bs k (by omega)]; omega)
          have d3 := A2.cell0 (k - 15) (by rw [padw_len bs k (by omega)]; omega)
          have d4 := A2.cell0 (k - 16) (by rw [padw_len bs k (by omega)]; omega)
          have A2' := A2.set0 k (by rw [padw_len bs k (by omega)]; omega) (wnext (padw bs k) k)
          rw [padw_set bs k (by omega) _ (by rw [if_neg (by omega), padw_next bs k (by omega)])] at A2'
          have W2 : Hid (W32 (gb (padw bs k) (k - 2))) := padw_all bs k _
          have W15 : Hid (W32 (gb (padw bs k) (k - 15))) := padw_all bs k _
          have EN : Hid (wnext (padw bs k) k = (((sg1 (gb (padw bs k) (k - 2)) + gb (padw bs k) (k - 7)) % 4294967296 + sg0 (gb (padw bs k) (k - 15))) % 4294967296 + gb (padw bs k) (k - 16)) % 4294967296) := rfl
          generalize wnext (padw bs k) k = nx at *
          generalize gb (padw bs k) (k - 2) = x2 at *
          generalize gb (padw bs k) (k - 7) = x7 at *
          generalize gb (padw bs k) (k - 15) = x15 at *
          generalize gb (padw bs k) (k - 16) = x16 at *
          generalize gb (padw bs k) k = x0 at *
          obtain ⟨j2, e2⟩ : ∃ j, j = k - 2 := ⟨_, rfl⟩
          rw [← e2] at d1
          have s2 : (k : Int) - 2 = (j2 : Int) := by omega
          have q2 : (j2 : Int) < 64 := by omega
          have m2 : ¬ k = j2 := by omega
          have n2 : ¬ j2 = k := by omega
          have p2 : IntKind.i64.wrap (j2 : Int) = j2 := by rw [IntKind.wrap_i64]; omega
          have z2 : (0 : Int) ≤ j2 := by omega
          clear e2
          obtain ⟨j7, e7⟩ : ∃ j, j = k - 7 := ⟨_, rfl⟩
          rw [← e7] at d2
          have s7 : (k : Int) - 7 = (j7 : Int) := by omega
          have q7 : (j7 : Int) < 64 := by omega
          have m7 : ¬ k = j7 := by omega
          have n7 : ¬ j7 = k := by omega
          have p7 : IntKind.i64.wrap (j7 : Int) = j7 := by rw [IntKind.wrap_i64]; omega
          have z7 : (0 : Int) ≤ j7 := by omega
          clear e7
          obtain ⟨j15, e15⟩ : ∃ j, j = k - 15 := ⟨_, rfl⟩
          rw [← e15] at d3
          have s15 : (k : Int) - 15 = (j15 : Int) := by omega
          have q15 : (j15 : Int) < 64 := by omega
          have m15 : ¬ k = j15 := by omega
          have n15 : ¬ j15 = k := by omega
          have p15 : IntKind.i64.wrap (j15 : Int) = j15 := by rw [IntKind.wrap_i64]; omega
          have z15 : (0 : Int) ≤ j15 := by omega
          clear e15
          obtain ⟨j16, e16⟩ : ∃ j, j = k - 16 := ⟨_, rfl⟩
          rw [← e16] at d4
          have s16 : (k : Int) - 16 = (j16 : Int) := by omega
          have q16 : (j16 : Int) < 64 := by omega
          have m16 : ¬ k = j16 := by omega
          have n16 : ¬ j16 = k := by omega
          have p16 : IntKind.i64.wrap (j16 : Int) = j16 := by rw [IntKind.wrap_i64]; omega
          have z16 : (0 : Int) ≤ j16 := by omega
          clear e16
          have q0 : (k : Int) < 64 := by omega
          go_wp2
          go_region_held3 (fun w' => w'.cell? ⟨w.heap.size + 1 + 1, j2, none⟩ = some (.int .u32 x2) ∧ w'.cell? ⟨w.heap.size + 1 + 1, j7, none⟩ = some (.int .u32 x7) ∧ w'.cell? ⟨w.heap.size + 1 + 1, j15, none⟩ = some (.int .u32 x15) ∧ w'.cell? ⟨w.heap.size + 1 + 1, j16, none⟩ = some (.int .u32 x16))
            (first | exact ⟨cell_set_off (w := wr) m2 d1, cell_set_off (w := wr) m7 d2, cell_set_off (w := wr) m15 d3, cell_set_off (w := wr) m16 d4⟩ | go_keep)
            (first
              | (go_at_call 91; refine (smallSigma1_any _ _ W2.out).mono ?_; rintro e w' ⟨rfl, hw⟩; obtain rfl := hw.symm)
              | (go_at_call 92; refine (smallSigma0_any _ _ W15.out).mono ?_; rintro e w' ⟨rfl, hw⟩; obtain rfl := hw.symm))
          have EV : nx = IntKind.u32.wrap (IntKind.u32.wrap (IntKind.u32.wrap (sg1 x2 + x7) + sg0 x15) + x16) := by
            rw [EN.out]; simp only [IntKind.wrap_u32]
          rw [EV] at A2'
          go_wp2
          go_roundw
          case rel =>
            iterate 28 (apply Exists.intro)
            refine ⟨?_, rfl⟩
            exact ⟨k + 1, by omega, by omega, by go_num, (A0.other (by show _ ≠ _; simp; omega) _).heap rfl, (A1.other (by show _ ≠ _; simp) _).heap rfl, A2'.heap rfl, (B0.setCell (by show _ ≤ _; simp; omega) _).drew⟩
          case measure => simp [intOf]; omega
        · have : k = 64 := by omega
          subst this
          rw [padw_end] at A2
          have HT : Hid (wr.there (w.heap.size + 1) 0 (sched bs 64).length) := by
            show World.there _ _ _ _
            rw [sched_len]; exact A1.2
          have H64 : Hid ((sched bs 64).length = 64) := sched_len bs 64
          obtain ⟨sc, hsc⟩ : ∃ sc, sc = sched bs 64 := ⟨_, rfl⟩
          rw [← hsc] at A2 HT H64
          have HSC : Hid (sc = sched bs 64) := hsc
          clear hsc
          go_wp2_with (first
            | (refine load_law _ rfl (.tmp 3) 117 rfl .u32 sc _ _ rfl A2 64 107 Tryd.underlying117 i_arr64w H64.out ?_)
            | (refine store_law _ rfl (.tmp 2) (.tmp 47) 117 rfl .u32 sc _ _ rfl rfl HT.out 64 i_arr64w H64.out ?_))
          refine bodyPost_ret (v := .agg (ints .u32 sc)) (results_ar rfl _ _ (w.heap.size + 1) 0 .u32 sc rfl (Ar.whole HT.out) 64 107 Tryd.underlying117 i_arr64w H64.out) rfl ⟨by rw [HSC.out], ?_⟩
          exact Lib.below_setCells _ (by omega) _ _ B0
end Go.Proofs.YtmbfccclghnaeaaDoor.mc

/- What sha's wordsToBytes and padding answer. No claim of its own. -/
namespace Go.Proofs.YtmbfccclghnaeaaDoor.mc
open Go.RowKit
set_option maxRecDepth 20000

theorem _root_.Go.Proofs.YtmbfccclghnaeaaDoor.OwnN.ar {B : Nat} {w : World} {g n : Nat} {xs : List Int} (h : OwnN B w g n xs) : Ar w g 0 .u8 xs := Ar.mk fun i hi => by
  have hl := h.1
  rw [Nat.zero_add]
  exact ⟨h.cell (by omega), h.free i⟩

theorem run_copy_byt (w : World) (b p dl dc : Nat) (ao : Option Addr) (ys : List Int) (cap : Nat) (ty : TypeId) (h5 : 0 < ys.length → ∃ b off, ao = some ⟨b, off, none⟩ ∧ ∀ t, t < ys.length → w.cell? ⟨b, off + t, none⟩ = some (.int .u8 (gb ys t))) (ht : w.there b p (min ys.length dl)) :
    (Builtin.copy_ #[23, 23] ty #[.slice (some ⟨b, p, none⟩) dl dc, .slice ao ys.length cap]).run Tryd.prog w = .ok (.int .i64 ((min ys.length dl : Nat) : Int)) (w.setCells b p ((ys.take dl).map (Value.int .u8))) := by
  obtain ⟨i0, hi, hz0, hz1, hz2⟩ := info_parts info_u8
  have hs : (Tryd.prog.info? 5).map (·.size) = some 1 := by rw [hi]; simp [hz1]
  by_cases hz : min ys.length dl = 0
  · have := run_copy_none (P := Tryd.prog) w 23 23 ty 5 (some ⟨b, p, none⟩) ao dl dc ys.length cap Tryd.underlying23 hs hz
    rw [this, hz]
    have : ys.take dl = [] := by
      rcases Nat.eq_zero_or_pos dl with h | h
      · subst h; simp
      · have : ys = [] := List.eq_nil_of_length_eq_zero (by omega)
        subst this; simp
    rw [this]; rfl
  · obtain ⟨b', off, rfl, hc⟩ := h5 (by omega)
    have hlen : ((ys.take dl).map (Value.int .u8)).length = min ys.length dl := by simp; omega
    have := run_copy_cells (P := Tryd.prog) w 23 23 ty 5 b p dl dc ⟨b', off, none⟩ ys.length cap ((ys.take dl).map (Value.int .u8)) Tryd.underlying23 hs hlen (fun j u hj => by
      have hj' : j < min ys.length dl := by rw [← hlen]; exact (List.getElem?_eq_some_iff.1 hj).1
      rw [Addr.add_mid, hc j (by omega), ← hj]
      simp [gb, List.getD, show j < dl by omega, show j < ys.length by omega]) (fun j hj => (ht j (by rw [← hlen]; exact hj)).1) (fun j hj => (ht j (by rw [← hlen]; exact hj)).2) (fun u hu => by
      simp only [List.mem_map] at hu
      obtain ⟨x, _, rfl⟩ := hu
      rfl)
    rw [this, hlen]; rfl

section
variable {ops : Array Oper} {o : Oper} {a : Act} {Q : Exit → Act → World → Prop} {K : Act → World → Prop} {E : Prop}
/-- 'copy(d, s)' in a region that draws its order -/
theorem step_copy (w : World) (hg : o.guard = none) (d : Option Tmp) (hd : o.dst = d) (x y : Operand) (hop : o.op = .call { callee := .builtin .copy, args := #[x, y], argTypes := #[23, 23] })
    (b p dl dc : Nat) (v : Value) (ys : List Int) (hx : a.eval x = .slice (some ⟨b, p, none⟩) dl dc) (hy : a.eval y = v) (hb : Byt w v ys) (ht : w.there b p (min ys.length dl))
    (hK : K (a.put d (.int .i64 ((min ys.length dl : Nat) : Int))) (w.setCells b p ((ys.take dl).map (Value.int .u8)))) :
    if Region.wanted o (yielded ops a.tmps) = true then Oper.wp Tryd.prog o a w K Q else E := by
  have hw : Region.wanted o (yielded ops a.tmps) = true := by simp [Region.wanted, hg]
  rw [if_pos hw]
  subst hd
  obtain ⟨ao, cap, rfl, h1, h2, h3, h4, h5⟩ := hb
  have hrun := run_copy_byt w b p dl dc ao ys cap o.type h5 ht
  unfold Oper.wp execOp
  simp only [hop, resolve, invoke, builtin, Sem.run_bind, Sem.run_pure, Result.andThen_ok, List.map_toArray, List.map_cons, List.map_nil, hx, hy, hrun]
  exact hK
end

theorem info_u32 : (Tryd.prog.info? 107).map (fun i => (i.zero, i.size, i.bytes)) = some (some (.int .u32 0), 1, 4) := by kernel_rfl
theorem run_size_u32 (w : World) : (sizeOf 107).run Tryd.prog w = .ok 1 w := by
  obtain ⟨i0, hi, hz0, hz1, hz2⟩ := info_parts info_u32
  simp [sizeOf, typeInfo, hi, hz1]
/-- an array's element -/
theorem idx_law {ops : Array Oper} {rest : List Oper} {o : Oper} {a : Act} {Q : Exit → Act → World → Prop} (w : World) (hg : o.guard = none) (x y : Operand) (hop : o.op = Op.index 108 x y) (xs : List Int) (I : Int) (i : Nat) (hx : a.eval x = .agg (ints .u32 xs)) (hy : a.eval y = .int .i64 I) (hI : I = (i : Int)) (hl : xs.length = 8) (hi : i < 8)
    (q : Int) (hq : q = gb xs i) (hK : wpList Tryd.prog ops Q rest (a.put o.dst (.int .u32 q)) w) : wpList Tryd.prog ops Q (o :: rest) a w := by
  subst hq
  subst hI
  refine wpList_plain hg fun K hK' => ?_
  have e : (ints .u32 xs)[i]? = some (.int .u32 (gb xs i)) := by simp [ints, gb, List.getD, show i < xs.length by omega]
  have hu := Tryd.underlying108
  have hu2 := Tryd.underlying107
  have hsz : (ints .u32 xs).size = 8 := by simp [ints, hl]
  have hr : (Instr.index 108 (.agg (ints .u32 xs)) (.int .i64 i)).run Tryd.prog w = .ok (.int .u32 (gb xs i)) w := by
    simp [Instr.index, asIntOf, run_underlying hu, run_underlying hu2, Go.part, isAgg, e]
    intro h; omega
  unfold Oper.wp execOp
  simp only [hop, hx, hy, Sem.run_bind, Sem.run_pure, Result.andThen_ok, hr]
  exact hK' _ _ hK

/-- four bytes of a word, the greatest first -/
def be4 (x : Int) : List Int := (le x 4).reverse
theorem be4_of (x : Int) : (le x (clamp 4 8)).reverse = be4 x := by rw [show clamp 4 8 = 4 by decide]; rfl
theorem be4_len (x : Int) : (be4 x).length = 4 := by simp [be4, le_len]
theorem be4_all (x : Int) : AllB (be4 x) := allB_reverse (le_all _ _)
/-- the bytes of the first k words -/
def catw (st : List Int) : Nat → List Int
  | 0 => []
  | k + 1 => catw st k ++ be4 (gb st k)
theorem catw_len (st : List Int) (k : Nat) : (catw st k).length = 4 * k := by
  induction k with
  | zero => rfl
  | succ k ih => simp [catw, ih, be4_len]; omega
theorem allB_append {xs ys : List Int} (h1 : AllB xs) (h2 : AllB ys) : AllB (xs ++ ys) := allB_mem fun x hx => by
  rcases List.mem_append.1 hx with h | h
  · obtain ⟨j, hj, rfl⟩ := List.getElem_of_mem h
    have := h1 j; simpa [gb, List.getD, hj] using this
  · obtain ⟨j, hj, rfl⟩ := List.getElem_of_mem h
    have := h2 j; simpa [gb, List.getD, hj] using this
theorem catw_all (st : List Int) (k : Nat) : AllB (catw st k) := by
  induction k with
  | zero => exact allB_mem (by simp [catw])
  | succ k ih => exact allB_append ih (be4_all _)
def catAt (st : List Int) (k : Nat) : List Int := catw st k ++ List.replicate (32 - 4 * k) 0
theorem catAt_len (st : List Int) (k : Nat) (h : k ≤ 8) : (catAt st k).length = 32 := by simp [catAt, catw_len]; omega
theorem catAt_lay (st : List Int) (k : Nat) (h : k < 8) : laid (catAt st k) (4 * k) (be4 (gb st k)) = catAt st (k + 1) := by
  have e1 : (catAt st k).take (4 * k) = catw st k := by
    unfold catAt
    rw [List.take_append_of_le_length (by rw [catw_len]; omega), List.take_of_length_le (by rw [catw_len]; omega)]
  have e2 : (catAt st k).drop (4 * k + 4) = List.replicate (32 - 4 * (k + 1)) 0 := by
    unfold catAt
    rw [List.drop_append, List.drop_of_length_le (by rw [catw_len]; omega), catw_len, List.nil_append, List.drop_replicate]
    congr 1; omega
  unfold laid
  rw [be4_len, e1, e2]
  rfl

set_option maxHeartbeats 1000000 in
theorem wordsToBytes_any (st : List Int) (w : World) (hs : AllW st) (hl : st.length = 8) :
    Calls Tryd.prog 79 #[.agg (ints .u32 st)] w fun e w' => ∃ v, e = .returned v ∧ Byt w' v (catw st 8) ∧ (∃ g, v = .slice (some ⟨g, 0, none⟩) 32 32 ∧ w.heap.size ≤ g ∧ Ar w' g 0 .u8 (catw st 8)) ∧ Below w.heap.size w w' := by
  have HS : Hid (AllW st) := hs
  have HL : Hid (st.length = 8) := hl
  clear hs hl
  have B0 : Below w.heap.size w (w.alloc (Obj.cells (ints IntKind.u32 st) 108)) := (Below.refl _ _).alloc (Nat.le_refl _) _
  have A0 : Ar (w.alloc (Obj.cells (ints IntKind.u32 st) 108)) w.heap.size 0 .u32 st := Ar.new w _ _ _
  have hz : (w.alloc (Obj.cells (ints IntKind.u32 st) 108)).heap.size = w.heap.size + 1 := by simp
  go_enter Tryd.func79, Tryd.ntmps79
  go_wp2_with (first
    | (refine box_law _ rfl (.tmp 0) 108 rfl .u32 st rfl ?_)
    | (at_make; refine make_law _ rfl _ _ rfl (w.heap.size + 1) (by rw [hz]; exact Nat.le_refl _) _ 32 rfl rfl rfl (by omega) ?_; intro w1 hown hbel hlt)
    | (refine load_law _ rfl (.tmp 1) 108 rfl .u32 st _ _ rfl (A0.below hbel (by omega)) 8 107 Tryd.underlying108 i_arr8 HL.out ?_))
  have A1 := hown.ar
  rw [hz] at A1
  have B1 : Below w.heap.size w w1 := B0.trans (hbel.mono (by omega))
  rw [hz] at hlt
  clear hown hbel A0 B0 hz
  go_loopw [8] (fun i wr => ∃ k : Nat, k ≤ 8 ∧ i = .int .i64 k ∧ Ar wr (w.heap.size + 1) 0 .u8 (catAt st k) ∧ Below w.heap.size w wr ∧ w.heap.size + 1 < wr.heap.size) (fun i _ => 8 - (intOf i).toNat)
  case atStart => exact ⟨0, by omega, rfl, A1, B1, hlt⟩
  case round =>
    clear A1 B1 hlt
    obtain ⟨k, hk, rfl, A1, B1, hlt⟩ := hrel
    by_cases hk8 : k < 8
    · have HT : Hid (wr.there (w.heap.size + 1) (4 * k) 4) := by
        intro j hj
        have := A1.2 (4 * k + j) (by rw [catAt_len st k hk]; omega)
        rw [Nat.zero_add] at this
        exact this
      have HLAY := catAt_lay st k hk8
      have HL4 := be4_len (gb st k)
      obtain ⟨x, hx⟩ : ∃ x, x = gb st k := ⟨_, rfl⟩
      have HX : Hid (x = gb st k) := hx
      have WX : Hid (W32 x) := by rw [hx]; exact HS.out k
      have hx0 : 0 ≤ x := WX.out.1
      have hx1 : x ≤ 4294967295 := WX.out.2
      have hx64 : IntKind.u64.wrap x = x := by rw [IntKind.wrap_u64]; omega
      rw [← hx] at HLAY HL4
      have HLAY' : Hid (laid (catAt st k) (4 * k) (be4 x) = catAt st (k + 1)) := HLAY
      have HL4' : Hid ((be4 x).length = 4) := HL4
      have HLC : Hid ((catAt st k).length = 32) := catAt_len st k hk
      clear hx HLAY HL4
      obtain ⟨m, hm⟩ : ∃ m, m = 4 * k := ⟨_, rfl⟩
      have z0 : 4 * (k : Int) = (m : Int) := by omega
      have z1 : (m : Int) ≤ 32 := by omega
      have z2 : ¬ 32 = m := by omega
      have z3 : IntKind.i64.wrap (m : Int) = (m : Int) := by rw [IntKind.wrap_i64]; omega
      have z4 : (0 : Int) ≤ (m : Int) := by omega
      rw [← hm] at HLAY' HT
      have HM : Hid (m = 4 * k) := hm
      clear hm
      go_wp2_with (refine idx_law _ rfl (.tmp 7) (.tmp 8) rfl st _ k rfl rfl rfl HL.out hk8 x HX.out ?_)
      go_region_held3 (fun w' => w'.there (w.heap.size + 1) m 4)
        (first | with_reducible exact World.there_setCells T1 _ _ _ | with_reducible exact T1 | with_reducible exact (World.there_drew ..).2 HT.out)
        (first
          | (go_at_call_of 49 (Value.int .u64 x); refine (big_any x 4 _ ⟨hx0, by omega⟩).mono ?_; rintro e w2 ⟨v2, rfl, hv2, hb2⟩; rw [be4_of] at hv2; have A2 : Ar w2 (w.heap.size + 1) 0 .u8 (catAt st k) := Ar.below (w := wr.drew) (A1.heap rfl) hb2 hlt; have T1 : w2.there (w.heap.size + 1) m 4 := fun j hj => by { have := A2.2 (m + j) (by rw [HLC.out]; have := HM.out; omega); rw [Nat.zero_add] at this; exact this })
          | (refine step_copy _ rfl (some 19) rfl (.tmp 15) (.tmp 18) rfl (w.heap.size + 1) m (32 - m) (32 - m) v2 (be4 x) rfl rfl hv2 (by rw [HL4'.out]; intro j hj; exact T1 j (by omega)) ?_)
          | fail)
      have A3 : Ar (w2.setCells (w.heap.size + 1) m (((be4 x).take (32 - m)).map (Value.int .u8))) (w.heap.size + 1) 0 .u8 (catAt st (k + 1)) := by
        have h4 := HL4'.out
        have hm := HM.out
        have := A2.lay m (be4 x) (by rw [h4, HLC.out]; omega)
        rw [HLAY'.out, Nat.zero_add] at this
        rw [List.take_of_length_le (by omega)]
        exact this
      have B3 : Below w.heap.size w (w2.setCells (w.heap.size + 1) m (((be4 x).take (32 - m)).map (Value.int .u8))) := Lib.below_setCells _ (by omega) _ _ (B1.drew.trans (hb2.mono B1.size))
      have Z3 : w.heap.size + 1 < (w2.setCells (w.heap.size + 1) m (((be4 x).take (32 - m)).map (Value.int .u8))).heap.size := A3.lt (by rw [catAt_len st (k + 1) (by omega)]; omega)
      generalize w2.setCells (w.heap.size + 1) m (((be4 x).take (32 - m)).map (Value.int .u8)) = w3 at A3 B3 Z3 ⊢
      go_wp2
      go_roundw
      case rel => exact ⟨k + 1, by omega, by go_num, A3, B3, Z3⟩
      case measure => simp [intOf]; omega
    · have : k = 8 := by omega
      subst this
      have e8 : catAt st 8 = catw st 8 := by simp [catAt]
      rw [e8] at A1
      have L8 : (catw st 8).length = 32 := catw_len st 8
      have HB : Hid (Byt wr (.slice (some ⟨w.heap.size + 1, 0, none⟩) 32 32) (catw st 8)) := by
        have := A1.byt (catw_all st 8) 0 32 32 (by omega) (by omega) (by omega) (by omega)
        rw [List.take_of_length_le (by omega), List.drop_zero] at this
        exact this
      have HA : Hid (Ar wr (w.heap.size + 1) 0 .u8 (catw st 8)) := A1
      clear e8 A1 L8
      go_wp2
      go_ret
      exact ⟨_, rfl, HB.out, ⟨_, rfl, by omega, HA.out⟩, B1⟩
end Go.Proofs.YtmbfccclghnaeaaDoor.mc

/- What sha's padding answers: what stands behind a text. No claim of its own. -/
namespace Go.Proofs.YtmbfccclghnaeaaDoor.mc
open Go.RowKit
set_option maxRecDepth 20000

/-- how many noughts -/
def zn (n : Nat) : Nat := (64 - (n + 9) % 64) % 64
/-- how many bits, as eight bytes -/
def be8 (n : Nat) : List Int := (le ((n : Int) * 8) 8).reverse
theorem be8_len (n : Nat) : (be8 n).length = 8 := by simp [be8, le_len]
theorem be8_all (n : Nat) : AllB (be8 n) := allB_reverse (le_all _ _)
theorem be8_of (n : Nat) : (le ((n : Int) * 8) (clamp 8 8)).reverse = be8 n := by rw [show clamp 8 8 = 8 by decide]; rfl
/-- what stands behind a text of n bytes -/
def padl (n : Nat) : List Int := 128 :: (List.replicate (zn n) 0 ++ be8 n)
theorem padl_len (n : Nat) : (padl n).length = zn n + 9 := by simp [padl, be8_len]
theorem padl_all (n : Nat) : AllB (padl n) := by
  refine allB_append (xs := [128]) (allB_mem (by simp)) (allB_append (allB_replicate 0 _ (by omega)) (be8_all n))
theorem padl_lay (n : Nat) : laid ((List.replicate (zn n + 9) (0 : Int)).set 0 128) (1 + zn n) (be8 n) = padl n := by
  have e0 : (List.replicate (zn n + 9) (0 : Int)).set 0 128 = 128 :: List.replicate (zn n + 8) 0 := by
    rw [show zn n + 9 = (zn n + 8) + 1 by omega, List.replicate_succ, List.set_cons_zero]
  unfold laid padl
  rw [e0, be8_len, show 1 + zn n = zn n + 1 by omega, List.take_succ_cons, List.take_replicate, show zn n + 1 + 8 = (zn n + 8) + 1 by omega, List.drop_succ_cons, List.drop_replicate]
  simp

set_option maxHeartbeats 2000000 in
theorem padding_any (n : Nat) (w : World) (hn : n ≤ 1048576) :
    Calls Tryd.prog 78 #[.int .i64 n] w fun e w' => ∃ v, e = .returned v ∧ Byt w' v (padl n) ∧ (∃ g, w.heap.size ≤ g ∧ Ar w' g 0 .u8 (padl n) ∧ v = .slice (some ⟨g, 0, none⟩) (padl n).length (padl n).length) ∧ Below w.heap.size w w' := by
  have hz0 := padl_lay n
  have hz1 : zn n < 64 := by unfold zn; omega
  obtain ⟨z, hz⟩ : ∃ z, z = zn n := ⟨_, rfl⟩
  obtain ⟨r, hr⟩ : ∃ r, r = (n + 9) % 64 := ⟨_, rfl⟩
  obtain ⟨q, hq⟩ : ∃ q, q = 64 - r := ⟨_, rfl⟩
  have hzq : z = q % 64 := by rw [hz, hq, hr]; rfl
  have h1 : ((n : Int) + 1 + 8) % 64 = (r : Int) := by omega
  have h1' : ((n : Int) + 9) % 64 = (r : Int) := by omega
  have h2 : (64 : Int) - (r : Int) = (q : Int) := by omega
  have h3 : (q : Int) % 64 = (z : Int) := by omega
  have i1 : (n : Int) ≤ 1048576 := by omega
  have i2 : (0 : Int) ≤ (n : Int) := by omega
  have i3 : (r : Int) < 64 := by omega
  have i4 : (q : Int) ≤ 64 := by omega
  have i5 : (z : Int) < 64 := by omega
  rw [← hz] at hz0 hz1
  have HZ0 : Hid (laid ((List.replicate (z + 9) (0 : Int)).set 0 128) (1 + z) (be8 n) = padl n) := hz0
  have HPL : Hid ((padl n).length = z + 9) := by rw [hz]; exact padl_len n
  clear hz0 hr hq hzq hz
  obtain ⟨L, hL⟩ : ∃ L, L = z + 9 := ⟨_, rfl⟩
  obtain ⟨m, hm⟩ : ∃ m, m = 1 + z := ⟨_, rfl⟩
  obtain ⟨y, hy⟩ : ∃ y, y = (n : Int) * 8 := ⟨_, rfl⟩
  have k1 : 1 + (z : Int) = (m : Int) := by omega
  have k2 : IntKind.i64.wrap (m : Int) = (m : Int) := by rw [IntKind.wrap_i64]; omega
  have k3 : (m : Int) ≤ (L : Int) := by omega
  have k4 : ¬ L = m := by omega
  have k5 : (0 : Int) ≤ (m : Int) := by omega
  have k6 : (m : Int) + 8 = (L : Int) := by omega
  have k7 : IntKind.i64.wrap (L : Int) = (L : Int) := by rw [IntKind.wrap_i64]; omega
  have y1 : (n : Int) * 8 = y := hy.symm
  have y2 : IntKind.u64.wrap y = y := by rw [IntKind.wrap_u64]; omega
  have y3 : IntKind.u64.wrap (n : Int) = n := by rw [IntKind.wrap_u64]; omega
  have HY : Hid (0 ≤ y ∧ y ≤ 18446744073709551615) := ⟨by omega, by omega⟩
  have HBE : Hid ((le y (clamp 8 8)).reverse = be8 n) := by rw [hy]; exact be8_of n
  have HB8 : Hid ((be8 n).length = 8) := be8_len n
  have HLm : Hid (L = m + 8 ∧ m ≤ 64) := ⟨by omega, by omega⟩
  rw [← hL] at HZ0 HPL
  rw [← hm] at HZ0
  clear hL hm hy
  generalize be8 n = b8 at *
  go_enter Tryd.func78, Tryd.ntmps78
  go_wp2_with (at_make; refine make_law _ rfl _ _ rfl w.heap.size (Nat.le_refl _) _ L rfl rfl rfl (by have := HLm.out; omega) ?_; intro w1 hown hbel hlt; have c0 := hown.cell (k := 0) (by have := HLm.out; omega); have f0 := hown.free 0)
  have A1 := hown.ar.set0 0 (by simp; have := HLm.out; omega) 128
  have B1 := hbel.setCell (p := ⟨w.heap.size, 0, none⟩) (Nat.le_refl _) (Value.int IntKind.u8 128)
  have Z1 : w.heap.size < (w1.setCell ⟨w.heap.size, 0, none⟩ (Value.int IntKind.u8 128)).heap.size := by simpa using hlt
  clear hown hbel c0 f0 hlt
  generalize w1.setCell ⟨w.heap.size, 0, none⟩ (Value.int IntKind.u8 128) = w2 at A1 B1 Z1 ⊢
  have HA1 : Hid (Ar w2 w.heap.size 0 .u8 ((List.replicate L (0 : Int)).set 0 128)) := A1
  have HT : Hid (w2.there w.heap.size m 8) := by
    intro j hj
    have := A1.2 (m + j) (by simp; have := HLm.out; omega)
    rwa [Nat.zero_add] at this
  clear A1
  go_region_held3 (fun w' => w'.there w.heap.size m 8)
    (first | with_reducible exact World.there_setCells T1 _ _ _ | with_reducible exact T1 | with_reducible exact (World.there_drew ..).2 HT.out)
    (first
      | (go_at_call_of 49 (Value.int .u64 y); refine (big_any y 8 _ HY.out).mono ?_; rintro e w3 ⟨v3, rfl, hv3, hb3⟩; rw [HBE.out] at hv3; have A2 : Ar w3 w.heap.size 0 .u8 ((List.replicate L (0 : Int)).set 0 128) := Ar.below (w := w2.drew) (HA1.out.heap rfl) hb3 Z1; have T1 : w3.there w.heap.size m 8 := fun j hj => by { have := A2.2 (m + j) (by simp; have := HLm.out; omega); rw [Nat.zero_add] at this; exact this })
      | (refine step_copy _ rfl (some 27) rfl (.tmp 22) (.tmp 26) rfl w.heap.size m (L - m) (L - m) v3 b8 rfl rfl hv3 (by rw [HB8.out]; intro j hj; exact T1 j (by omega)) ?_)
      | fail)
  have A3 : Ar (w3.setCells w.heap.size m ((b8.take (L - m)).map (Value.int .u8))) w.heap.size 0 .u8 (padl n) := by
    have h8 := HB8.out
    have hm := HLm.out
    have := A2.lay m b8 (by rw [h8]; simp; omega)
    rw [HZ0.out, Nat.zero_add] at this
    rw [List.take_of_length_le (by omega)]
    exact this
  have B3 : Below w.heap.size w (w3.setCells w.heap.size m ((b8.take (L - m)).map (Value.int .u8))) := Lib.below_setCells _ (Nat.le_refl _) _ _ (B1.drew.trans (hb3.mono B1.size))
  generalize w3.setCells w.heap.size m ((b8.take (L - m)).map (Value.int .u8)) = w4 at A3 B3 ⊢
  have HB : Hid (Byt w4 (.slice (some ⟨w.heap.size, 0, none⟩) L L) (padl n)) := by
    have := A3.byt (padl_all n) 0 L L (by omega) (by rw [HPL.out]; omega) (by omega) (by have := HLm.out; omega)
    rw [List.take_of_length_le (by rw [HPL.out]; omega), List.drop_zero] at this
    exact this
  have HA : Hid (Ar w4 w.heap.size 0 .u8 (padl n)) := A3
  clear A3
  go_wp2
  go_ret
  exact ⟨_, rfl, HB.out, ⟨w.heap.size, Nat.le_refl _, HA.out, by rw [HPL.out]; rfl⟩, B3⟩
end Go.Proofs.YtmbfccclghnaeaaDoor.mc

/- The laws by which sha's compress adds its state. No claim of its own. -/
namespace Go.Proofs.YtmbfccclghnaeaaDoor.mc
open Go.RowKit
set_option maxRecDepth 20000

/-- while the state is added: the state's own place, the result's -/
def Bun (w : World) (xs : List Int) (w' : World) : Prop := xs.length = 8 ∧ Ar w' w.heap.size 0 .u32 xs ∧ Ar w' (w.heap.size + 1 + 1) 0 .u32 z8 ∧ Below w.heap.size w w'
theorem gb_set_ne (xs : List Int) (i j : Nat) (x : Int) (h : i ≠ j) : gb (xs.set i x) j = gb xs j := by simp [gb, List.getD, h]
section
variable {ops : Array Oper} {rest : List Oper} {o : Oper} {a : Act} {Q : Exit → Act → World → Prop}
theorem bun_load {w : World} {xs : List Int} (w' : World) (hg : o.guard = none) (x : Operand) (hop : o.op = Op.load 107 x) (i : Nat) (hx : a.eval x = .pointer (some ⟨w.heap.size, i, none⟩)) (h : Bun w xs w') (hi : i < 8) (q : Int) (hq : q = gb xs i)
    (hK : wpList Tryd.prog ops Q rest (a.put o.dst (.int .u32 q)) w') : wpList Tryd.prog ops Q (o :: rest) a w' := by
  subst hq
  refine wpList_plain hg fun K hK' => ?_
  have hc := h.2.1.cell0 i (by rw [h.1]; exact hi)
  have hr : (Instr.loadAt 107 (.pointer (some ⟨w.heap.size, i, none⟩))).run Tryd.prog w' = .ok (.int .u32 (gb xs i)) w' := by simp [go_sem, hc]
  unfold Oper.wp execOp
  simp only [hop, hx, Sem.run_bind, Sem.run_pure, Result.andThen_ok, hr]
  exact hK' _ _ hK
theorem bun_store {w : World} {xs : List Int} (w' : World) (hg : o.guard = none) (x y : Operand) (hop : o.op = Op.store 107 x y) (i : Nat) (v : Int) (hx : a.eval x = .pointer (some ⟨w.heap.size, i, none⟩)) (hy : a.eval y = .int .u32 v) (h : Bun w xs w') (hi : i < 8)
    (hK : ∀ w'', Bun w (xs.set i v) w'' → wpList Tryd.prog ops Q rest (a.put o.dst undef) w'') : wpList Tryd.prog ops Q (o :: rest) a w' := by
  refine wpList_plain hg fun K hK' => ?_
  have hlen := h.1
  have hc := h.2.1.cell0 i (by omega)
  have hf := h.2.1.free0 i (by omega)
  have h2 : Bun w (xs.set i v) (w'.setCell ⟨w.heap.size, i, none⟩ (.int .u32 v)) :=
    ⟨by simpa using hlen, h.2.1.set0 i (by omega) v, h.2.2.1.other (by show _ ≠ w.heap.size; omega) _, h.2.2.2.setCell (Nat.le_refl _) _⟩
  have hr : (Instr.storeAt 107 (.pointer (some ⟨w.heap.size, i, none⟩)) (.int .u32 v)).run Tryd.prog w' = .ok () (w'.setCell ⟨w.heap.size, i, none⟩ (.int .u32 v)) := by simp [go_sem, hc, hf]
  unfold Oper.wp execOp
  simp only [hop, hx, hy, Sem.run_bind, Sem.run_pure, Result.andThen_ok, hr]
  exact hK' _ _ (hK _ h2)
end
end Go.Proofs.YtmbfccclghnaeaaDoor.mc

