/- What the reference's Put answers. No claim of its own. -/
import Derived.Test.YtedmmpognhpbdaaJRd
namespace Go.Proofs.Ytedmmpognhpbdaa.pm
open Go.RowKit Go.Proofs.Ytedmmpognhpbdaa.he
set_option maxRecDepth 20000

/-- a Put speaks of a cell's sector -/
def spk (i l k : Nat) (c : Ce) : Bool := decide (c.n = (i : Int)) && (decide ((l : Int) ≤ c.l) && decide (c.l < (l : Int) + (k : Int)))
def ptC (i l k : Nat) (x : Sp) (c : Ce) : Ce := if spk i l k c && nw x c.s then { c with s := x } else c
theorem ptC_yes {i l k : Nat} {x : Sp} {c : Ce} (h : spk i l k c = true) (hn : nw x c.s = true) : ptC i l k x c = { c with s := x } := by simp [ptC, h, hn]
theorem ptC_old {i l k : Nat} {x : Sp} {c : Ce} (hn : nw x c.s = false) : ptC i l k x c = c := by simp [ptC, hn]
theorem ptC_no {i l k : Nat} {x : Sp} {c : Ce} (h : spk i l k c = false) : ptC i l k x c = c := by simp [ptC, h]
/-- the cells that are new -/
def pnew (i l : Nat) (x : Sp) (L : List Ce) : Nat → List Ce
  | 0 => []
  | t + 1 => pnew i l x L t ++ (if plc i ((l + t : Nat) : Int) L 0 < 0 then [⟨i, ((l + t : Nat) : Int), x⟩] else [])
theorem pnew_len (i l : Nat) (x : Sp) (L : List Ce) : ∀ t, (pnew i l x L t).length ≤ t
  | 0 => Nat.le_refl _
  | t + 1 => by
    unfold pnew
    have := pnew_len i l x L t
    rw [List.length_append]
    split <;> simp <;> omega
theorem spot_law {w : World} {b : Nat} {x : Ce} (h : Vr w b x.cs) (y : Sp) : Vr (w.setCells b 2 y.cs) b ({ x with s := y } : Ce).cs := At.sets y.cs w 2 x.cs (by show 2 + 14 ≤ 16; omega) h
set_option maxHeartbeats 16000000 in
theorem rput_any (s : Nat → Nat) (v : Value) (L : List Ce) (x : Sp) (i l k : Nat) (w : World) (hL : Cl w v L) (hn : L.length ≤ 50000) (hi : x.h.n = i) (hl : x.h.l = l) (hk : x.h.c = k) (hb : l + k ≤ 50000) : Calls Try.prog 30 #[.agg (rmc s v).toArray, .agg x.cs.toArray] w fun e w' => ∃ v' vg, e = .returned (.tuple #[.agg (rmc s v').toArray, vg]) ∧ Cl w' v' (L.map (ptC i l k x) ++ pnew i l x L k) ∧ (∀ k, Blk v' k → w.heap.size ≤ k ∧ k < w'.heap.size) ∧ Pls w' vg (gn (L.map (ptC i l k x) ++ pnew i l x L k) L) ∧ (∀ k, Blk vg k → w.heap.size ≤ k ∧ k < w'.heap.size) ∧ Below w.heap.size w w' := by
  have GN : Hid (∀ W, Below w.heap.size w W → ∀ {v2}, Cl W v2 (L.map (ptC i l k x) ++ pnew i l x L k) → Calls Try.prog 50 #[.agg (rmc s v).toArray, .agg (rmc s v2).toArray] W fun e w' => ∃ v9, e = .returned v9 ∧ Pls w' v9 (gn (L.map (ptC i l k x) ++ pnew i l x L k) L) ∧ (∀ k, Blk v9 k → W.heap.size ≤ k ∧ k < w'.heap.size) ∧ Below W.heap.size W w') := fun W hW v2 h2 => rgone_any s s v v2 L _ W (hL.below hW) h2 (by omega) (by have := pnew_len i l x L k; rw [List.length_append, List.length_map]; omega)
  have PC : Hid (∀ W t, Below w.heap.size w W → Calls Try.prog 33 #[.agg (rmc s v).toArray, .int .i64 (i : Int), .int .i64 ((l + t : Nat) : Int)] W fun e w' => e = .returned (.int .i64 (plc i ((l + t : Nat) : Int) L 0)) ∧ Below W.heap.size W w') := fun W t hW => rplace_any s v L _ _ W (hL.below hW) (by omega)
  obtain ⟨ao, cap, rfl, hr⟩ := hL
  obtain ⟨n, hN⟩ : ∃ n, n = L.length := ⟨_, rfl⟩
  have HR : Hid (0 < n → ∃ g, ao = some ⟨g, 0, none⟩ ∧ Rc w g L) := by rw [hN]; exact hr
  have NN : Hid (n = L.length) := hN
  rw [← hN] at GN PC ⊢
  have n9 : (n : Int) ≤ 50000 := by omega
  have EN : Hid (x.h.n = i) := hi
  have EL : Hid (x.h.l = l) := hl
  have EC : Hid (x.h.c = k) := hk
  have lw : IntKind.i64.wrap (l : Int) = (l : Int) := by rw [IntKind.wrap_i64]; omega
  have lkw : IntKind.i64.wrap ((l : Int) + (k : Int)) = (l : Int) + (k : Int) := by rw [IntKind.wrap_i64]; omega
  have l9 : (l : Int) + (k : Int) ≤ 50000 := by omega
  clear hr hn hN hi hl hk hb
  have t0 : (0 : Nat) = 0 := rfl
  go_enter Try.func30, Try.ntmps30
  go_wp2_with (first
    | (have qq := t6; (with_reducible refine at_store ?_); refine store_lawC _ (rmc s (.slice none 0 0)) w3.heap.size 0 rfl rfl VZ.out.2 size_rmap (rmc_one (Og.nil 0 w)) ?_; intro w5 _ r9 h9 B9; have V5 : Hid (Vr w5 w3.heap.size (rmc s (.slice none 0 0))) := ⟨r9, h9⟩; have B7 : Hid (Below w3.heap.size w3 w5) := B6.out.trans B9; clear r9 h9 B9 VZ B6 t6)
    | (have qq := t5; (with_reducible refine at_alloc ?_); refine new_lawC _ _ zero_rmap ?_; intro w4 X9 B9 l9; have VZ : Hid (Vr w4 w3.heap.size (rmc (fun _ => 0) (.slice none 0 0))) := X9; have B6 : Hid (Below w3.heap.size w3 w4) := B9; clear X9 B9 l9 t5; have t6 : (0 : Nat) = 0 := rfl)
    | (have qq := t4; refine build_law _ rfl 28 _ rfl (.agg (rmc s (.slice none 0 0)).toArray) (by kernel_rfl) ?_; clear t4; have t5 : (0 : Nat) = 0 := rfl)
    | (have qq := t3; refine load_law _ (by rfl) 25 (.tmp 11) rfl w.heap.size 0 (sz4 s) rfl rowy_arr4 (load_sz V0.out) ?_; clear t3; have t4 : (0 : Nat) = 0 := rfl)
    | (have qq := t2; (with_reducible refine at_alloc ?_); refine new_lawC _ _ zero_rmap ?_; intro w3 X9 B9 l9; have V4 : Hid (Vr w3 w2.heap.size (rmc (fun _ => 0) (.slice none 0 0))) := X9; have LO : Hid (w.heap.size < w2.heap.size ∧ w1.heap.size < w2.heap.size) := ⟨range_lt V0.out.1 (Nat.succ_pos _), range_lt V1.out.1 (Nat.succ_pos _)⟩; have V0 : Hid (Vr w3 w.heap.size (rmc s (.slice ao n cap))) := V0.out.below B9 (range_lt V0.out.1 (Nat.succ_pos _)); have V1 : Hid (Vr w3 w1.heap.size x.cs) := V1.out.below B9 (range_lt V1.out.1 (Nat.succ_pos _)); have BB : Hid (Below w.heap.size w w3) := BB.out.trans (B9.mono BB.out.size); clear X9 B9 l9 t2; have t3 : (0 : Nat) = 0 := rfl)
    | (have qq := t1; refine box_lawC _ x.cs rfl ?_; intro w2 X9 B9 l9; have V1 : Hid (Vr w2 w1.heap.size x.cs) := X9; have V0 : Hid (Vr w2 w.heap.size (rmc s (.slice ao n cap))) := V0.out.below B9 (range_lt V0.out.1 (Nat.succ_pos _)); have BB : Hid (Below w.heap.size w w2) := BB.out.trans (B9.mono BB.out.size); clear X9 B9 l9 t1; have t2 : (0 : Nat) = 0 := rfl)
    | (have qq := t0; refine box_lawC _ (rmc s (.slice ao n cap)) rfl ?_; intro w1 X9 B9 l9; have V0 : Hid (Vr w1 w.heap.size (rmc s (.slice ao n cap))) := X9; have BB : Hid (Below w.heap.size w w1) := B9; clear X9 B9 l9 t0; have t1 : (0 : Nat) = 0 := rfl))
  obtain ⟨B, hB⟩ : ∃ B, B = w5.heap.size := ⟨_, rfl⟩
  have HM : Hid (Ms w w5 B [(w.heap.size, rmc s (.slice ao n cap)), (w1.heap.size, x.cs), (w2.heap.size, rmc (fun _ => 0) (.slice none 0 0))] w3.heap.size s (.slice none 0 0) (.slice none 0 0) ((L.take 0).map (ptC i l k x))) := ms_more hB (fun x hx => by
    simp only [List.mem_cons, List.not_mem_nil, or_false] at hx
    rcases hx with rfl | rfl | rfl
    · exact ⟨V0.out, Nat.succ_pos _⟩
    · exact ⟨V1.out, Nat.succ_pos _⟩
    · exact ⟨V4.out, Nat.succ_pos _⟩) rfl V5.out rfl B7.out BB.out
  clear V0 V1 V4 V5 B7 BB hB
  go_loopw [7, 8, 9] (fun iv _ _ wr => ∃ (t : Nat) (v : Value), t ≤ n ∧ iv = .int .i64 t ∧ Hid (Ms w wr B [(w.heap.size, rmc s (.slice ao n cap)), (w1.heap.size, x.cs), (w2.heap.size, rmc (fun _ => 0) (.slice none 0 0))] w3.heap.size s v v ((L.take t).map (ptC i l k x)))) (fun iv _ _ _ => n - (intOf iv).toNat)
  case atStart => exact ⟨0, _, Nat.zero_le _, rfl, HM⟩
  case round =>
    clear HM
    obtain ⟨t, v, ht, rfl, HM⟩ := hrel
    have k0 : (0 : Int) ≤ (t : Int) := by omega
    have kw : IntKind.i64.wrap ((t : Int) + 1) = ((t + 1 : Nat) : Int) := by rw [IntKind.wrap_i64]; omega
    have nv : wr.cell? ⟨w.heap.size, 4, none⟩ = some (.slice ao n cap) := (HM.out.var (List.mem_of_getElem? (i := 0) rfl)).cell 4 _ rfl
    by_cases hlt : t < n
    · have k1 : (t : Int) < (n : Int) := by omega
      clear GN PC
      obtain ⟨c, hx⟩ : ∃ c, L[t]? = some c := ⟨_, List.getElem?_eq_getElem (by have := NN.out; omega)⟩
      obtain ⟨g, rfl, hr⟩ := HR.out (by omega)
      have nx := cells16 ((hr.below HM.out.h) t c hx).1
      have HX : Hid (L[t]? = some c) := hx
      have KN : Hid (((L.take t).map (ptC i l k x)).length ≤ 100000) := by show _ ≤ _; rw [List.length_map, List.length_take]; omega
      clear hr hx
      by_cases hp : c.n = (i : Int)
      · have d1 : decide (c.n = (i : Int)) = true := decide_eq_true hp
        have d2 : (c.n == (i : Int)) = true := beq_iff_eq.2 hp
        by_cases hq : (l : Int) ≤ c.l
        · have d3 : decide (c.l ≥ (l : Int)) = true := decide_eq_true hq
          have d3' : c.l ≥ (l : Int) := hq
          by_cases hr : c.l < (l : Int) + (k : Int)
          · have d4 : decide (c.l < (l : Int) + (k : Int)) = true := decide_eq_true hr
            have SP : Hid (spk i l k c = true) := by show _ = _; simp [spk, hp, hq, hr]
            clear hp hq hr
            cases hw : nw x c.s with
            | true =>
              have SN : Hid (∀ W, Calls Try.prog 17 #[.agg x.cs.toArray, .agg c.s.cs.toArray] W fun e w' => e = .returned (.bool true) ∧ Below W.heap.size W w') := fun W => by rw [← hw]; exact rnewer_any x c.s W
              have LL : Hid ((L.take (t + 1)).map (ptC i l k x) = (L.take t).map (ptC i l k x) ++ [({ c with s := x } : Ce)]) := by show _ = _; rw [take_more HX.out, List.map_append]; simp [ptC_yes SP.out hw]
              clear hw
              have t0 : (0 : Nat) = 0 := rfl
              go_upto_region 9 with (first
                | (have qq := t6; (with_reducible refine at_store ?_); refine store_lawC _ x.cs wr.heap.size 2 rfl rfl (there_in VC.out.2 (by show 2 + 14 ≤ 16; omega)) size_rspot x.one ?_; intro wd e9 _ _ B9; have VC : Hid (Vr wd wr.heap.size ({ c with s := x } : Ce).cs) := (by have z := spot_law VC.out x; rw [← e9.out] at z; exact z); have BN : Hid (Below wr.heap.size wr wd) := BN.out.trans B9; have no : wd.cell? ⟨w3.heap.size, 4, none⟩ = some v := (HM.out.below BN.out).o.cell 4 _ rfl; clear e9 B9 t6; have t7 : (0 : Nat) = 0 := rfl)
                | (have qq := t5; refine load_law _ (by rfl) 49 (.tmp 3) rfl w1.heap.size 0 x.cs rfl rowy_rspot ((HM.out.below BN.out).var (List.mem_of_getElem? (i := 1) rfl)).1 ?_; clear t5; have t6 : (0 : Nat) = 0 := rfl)
                | (have qq := t4; go_at_call 17; refine (SN.out _).mono ?_; rintro e wc ⟨rfl, B9⟩; have VC : Hid (Vr wc wr.heap.size c.cs) := VC.out.below B9 (range_lt VC.out.1 (Nat.succ_pos _)); have BN : Hid (Below wr.heap.size wr wc) := BN.out.trans (B9.mono BN.out.size); clear B9 c0 c1 n3 n4 n5 t4; have t5 : (0 : Nat) = 0 := rfl)
                | (have qq := t3; refine load_law _ (by rfl) 49 (.tmp 57) rfl wr.heap.size 2 c.s.cs rfl rowy_rspot (by have z := spot_in VC.out.1; exact z) ?_; clear t3; have t4 : (0 : Nat) = 0 := rfl)
                | (have qq := t2; refine load_law _ (by rfl) 49 (.tmp 3) rfl w1.heap.size 0 x.cs rfl rowy_rspot ((HM.out.below BN.out).var (List.mem_of_getElem? (i := 1) rfl)).1 ?_; clear t2; have t3 : (0 : Nat) = 0 := rfl)
                | (have qq := t1; (with_reducible refine at_store ?_); refine store_lawC _ c.cs wr.heap.size 0 rfl rfl VZ.out.2 size_cell c.one ?_; intro wb _ r9 h9 B9; have VC : Hid (Vr wb wr.heap.size c.cs) := ⟨r9, h9⟩; have BN : Hid (Below wr.heap.size wr wb) := BN.out.trans B9; have c0 : wb.cell? ⟨wr.heap.size, 0, none⟩ = some (.int .i64 c.n) := VC.out.cell 0 _ rfl; have c1 : wb.cell? ⟨wr.heap.size, 1, none⟩ = some (.int .i64 c.l) := VC.out.cell 1 _ rfl; have n3 : wb.cell? ⟨w1.heap.size, 3, none⟩ = some (.int .i64 (i : Int)) := (by rw [← EN.out]; exact ((HM.out.below BN.out).var (List.mem_of_getElem? (i := 1) rfl)).cell 3 _ rfl); have n4 : wb.cell? ⟨w1.heap.size, 4, none⟩ = some (.int .i64 (k : Int)) := (by rw [← EC.out]; exact ((HM.out.below BN.out).var (List.mem_of_getElem? (i := 1) rfl)).cell 4 _ rfl); have n5 : wb.cell? ⟨w1.heap.size, 5, none⟩ = some (.int .u32 (l : Int)) := (by rw [← EL.out]; exact ((HM.out.below BN.out).var (List.mem_of_getElem? (i := 1) rfl)).cell 5 _ rfl); clear r9 h9 B9 VZ t1; have t2 : (0 : Nat) = 0 := rfl)
                | (have qq := t0; (with_reducible refine at_alloc ?_); refine new_lawC _ ce0.cs zero_cell ?_; intro wa X9 B9 l9; have VZ : Hid (Vr wa wr.heap.size ce0.cs) := X9; have BN : Hid (Below wr.heap.size wr wa) := B9; clear X9 B9 l9 t0; have t1 : (0 : Nat) = 0 := rfl))
              clear nx nv
              go_wp2_with (first
                | (have qq := t12; (with_reducible refine at_store ?_); refine set_law1 _ rfl (.tmp 68) (.tmp 67) 26 rfl (rmc s v) w3.heap.size 4 v9 rfl rfl HM.out.o (by show 4 < 5; omega) HM.out.g.one.1 HM.out.g.one.2 sz_cells ?_; intro wg X9 G9; have HM : Hid (Ms w wg B [(w.heap.size, rmc s (.slice (some ⟨g, 0, none⟩) n cap)), (w1.heap.size, x.cs), (w2.heap.size, rmc (fun _ => 0) (.slice none 0 0))] w3.heap.size s v9 v9 ((L.take (t + 1)).map (ptC i l k x))) := HM.out.put G9 X9; clear X9 G9 t12)
                | (have qq := t11; refine push_lawG _ rfl (.tmp 64) (.tmp 66) rfl B HM.out.lb v ((L.take t).map (ptC i l k x)) wd.heap.size ({ c with s := x } : Ce) rfl rfl HM.out.g VL.out KN.out ?_; intro v9 wf O9 G9; have O8 : Hid (Og B wf v9 ((L.take (t + 1)).map (ptC i l k x))) := (by rw [← LL.out] at O9; exact O9); have HM : Hid (Ms w wf B [(w.heap.size, rmc s (.slice (some ⟨g, 0, none⟩) n cap)), (w1.heap.size, x.cs), (w2.heap.size, rmc (fun _ => 0) (.slice none 0 0))] w3.heap.size s v v9 ((L.take (t + 1)).map (ptC i l k x))) := HM.out.push G9 O8.out; clear O9 G9 O8 VL t11; have t12 : (0 : Nat) = 0 := rfl)
                | (have qq := t10; refine one_lawG _ rfl (.tmp 65) ({ c with s := x } : Ce) rfl rfl ?_; intro we X9 B9 _; have VL : Hid (Vr we wd.heap.size ({ c with s := x } : Ce).cs) := X9; have HM : Hid (Ms w we B [(w.heap.size, rmc s (.slice (some ⟨g, 0, none⟩) n cap)), (w1.heap.size, x.cs), (w2.heap.size, rmc (fun _ => 0) (.slice none 0 0))] w3.heap.size s v v ((L.take t).map (ptC i l k x))) := HM.out.below B9; clear X9 B9 t10; have t11 : (0 : Nat) = 0 := rfl)
                | (have qq := t7; refine load_law _ (by rfl) 51 (.tmp 8) rfl wr.heap.size 0 ({ c with s := x } : Ce).cs rfl rowy_cell VC.out.1 ?_; have HM : Hid (Ms w wd B [(w.heap.size, rmc s (.slice (some ⟨g, 0, none⟩) n cap)), (w1.heap.size, x.cs), (w2.heap.size, rmc (fun _ => 0) (.slice none 0 0))] w3.heap.size s v v ((L.take t).map (ptC i l k x))) := HM.out.below BN.out; clear t7 BN VC no; have t10 : (0 : Nat) = 0 := rfl))
              go_roundw
              case rel => exact ⟨t + 1, v9, by omega, by go_num, HM⟩
              case measure => simp [intOf]; omega
            | false =>
              have SN : Hid (∀ W, Calls Try.prog 17 #[.agg x.cs.toArray, .agg c.s.cs.toArray] W fun e w' => e = .returned (.bool false) ∧ Below W.heap.size W w') := fun W => by rw [← hw]; exact rnewer_any x c.s W
              have LL : Hid ((L.take (t + 1)).map (ptC i l k x) = (L.take t).map (ptC i l k x) ++ [c]) := by show _ = _; rw [take_more HX.out, List.map_append]; simp [ptC_old hw]
              clear hw
              have t0 : (0 : Nat) = 0 := rfl
              go_upto_region 9 with (first
                | (have qq := t4; go_at_call 17; refine (SN.out _).mono ?_; rintro e wc ⟨rfl, B9⟩; have VC : Hid (Vr wc wr.heap.size c.cs) := VC.out.below B9 (range_lt VC.out.1 (Nat.succ_pos _)); have BN : Hid (Below wr.heap.size wr wc) := BN.out.trans (B9.mono BN.out.size); have no : wc.cell? ⟨w3.heap.size, 4, none⟩ = some v := (HM.out.below BN.out).o.cell 4 _ rfl; clear B9 c0 c1 n3 n4 n5 t4; have t5 : (0 : Nat) = 0 := rfl)
                | (have qq := t3; refine load_law _ (by rfl) 49 (.tmp 57) rfl wr.heap.size 2 c.s.cs rfl rowy_rspot (by have z := spot_in VC.out.1; exact z) ?_; clear t3; have t4 : (0 : Nat) = 0 := rfl)
                | (have qq := t2; refine load_law _ (by rfl) 49 (.tmp 3) rfl w1.heap.size 0 x.cs rfl rowy_rspot ((HM.out.below BN.out).var (List.mem_of_getElem? (i := 1) rfl)).1 ?_; clear t2; have t3 : (0 : Nat) = 0 := rfl)
                | (have qq := t1; (with_reducible refine at_store ?_); refine store_lawC _ c.cs wr.heap.size 0 rfl rfl VZ.out.2 size_cell c.one ?_; intro wb _ r9 h9 B9; have VC : Hid (Vr wb wr.heap.size c.cs) := ⟨r9, h9⟩; have BN : Hid (Below wr.heap.size wr wb) := BN.out.trans B9; have c0 : wb.cell? ⟨wr.heap.size, 0, none⟩ = some (.int .i64 c.n) := VC.out.cell 0 _ rfl; have c1 : wb.cell? ⟨wr.heap.size, 1, none⟩ = some (.int .i64 c.l) := VC.out.cell 1 _ rfl; have n3 : wb.cell? ⟨w1.heap.size, 3, none⟩ = some (.int .i64 (i : Int)) := (by rw [← EN.out]; exact ((HM.out.below BN.out).var (List.mem_of_getElem? (i := 1) rfl)).cell 3 _ rfl); have n4 : wb.cell? ⟨w1.heap.size, 4, none⟩ = some (.int .i64 (k : Int)) := (by rw [← EC.out]; exact ((HM.out.below BN.out).var (List.mem_of_getElem? (i := 1) rfl)).cell 4 _ rfl); have n5 : wb.cell? ⟨w1.heap.size, 5, none⟩ = some (.int .u32 (l : Int)) := (by rw [← EL.out]; exact ((HM.out.below BN.out).var (List.mem_of_getElem? (i := 1) rfl)).cell 5 _ rfl); clear r9 h9 B9 VZ t1; have t2 : (0 : Nat) = 0 := rfl)
                | (have qq := t0; (with_reducible refine at_alloc ?_); refine new_lawC _ ce0.cs zero_cell ?_; intro wa X9 B9 l9; have VZ : Hid (Vr wa wr.heap.size ce0.cs) := X9; have BN : Hid (Below wr.heap.size wr wa) := B9; clear X9 B9 l9 t0; have t1 : (0 : Nat) = 0 := rfl))
              clear nx nv
              go_wp2_with (first
                | (have qq := t12; (with_reducible refine at_store ?_); refine set_law1 _ rfl (.tmp 68) (.tmp 67) 26 rfl (rmc s v) w3.heap.size 4 v9 rfl rfl HM.out.o (by show 4 < 5; omega) HM.out.g.one.1 HM.out.g.one.2 sz_cells ?_; intro wg X9 G9; have HM : Hid (Ms w wg B [(w.heap.size, rmc s (.slice (some ⟨g, 0, none⟩) n cap)), (w1.heap.size, x.cs), (w2.heap.size, rmc (fun _ => 0) (.slice none 0 0))] w3.heap.size s v9 v9 ((L.take (t + 1)).map (ptC i l k x))) := HM.out.put G9 X9; clear X9 G9 t12)
                | (have qq := t11; refine push_lawG _ rfl (.tmp 64) (.tmp 66) rfl B HM.out.lb v ((L.take t).map (ptC i l k x)) wc.heap.size c rfl rfl HM.out.g VL.out KN.out ?_; intro v9 wf O9 G9; have O8 : Hid (Og B wf v9 ((L.take (t + 1)).map (ptC i l k x))) := (by rw [← LL.out] at O9; exact O9); have HM : Hid (Ms w wf B [(w.heap.size, rmc s (.slice (some ⟨g, 0, none⟩) n cap)), (w1.heap.size, x.cs), (w2.heap.size, rmc (fun _ => 0) (.slice none 0 0))] w3.heap.size s v v9 ((L.take (t + 1)).map (ptC i l k x))) := HM.out.push G9 O8.out; clear O9 G9 O8 VL t11; have t12 : (0 : Nat) = 0 := rfl)
                | (have qq := t10; refine one_lawG _ rfl (.tmp 65) c rfl rfl ?_; intro we X9 B9 _; have VL : Hid (Vr we wc.heap.size c.cs) := X9; have HM : Hid (Ms w we B [(w.heap.size, rmc s (.slice (some ⟨g, 0, none⟩) n cap)), (w1.heap.size, x.cs), (w2.heap.size, rmc (fun _ => 0) (.slice none 0 0))] w3.heap.size s v v ((L.take t).map (ptC i l k x))) := HM.out.below B9; clear X9 B9 t10; have t11 : (0 : Nat) = 0 := rfl)
                | (have qq := t5; refine load_law _ (by rfl) 51 (.tmp 8) rfl wr.heap.size 0 c.cs rfl rowy_cell VC.out.1 ?_; have HM : Hid (Ms w wc B [(w.heap.size, rmc s (.slice (some ⟨g, 0, none⟩) n cap)), (w1.heap.size, x.cs), (w2.heap.size, rmc (fun _ => 0) (.slice none 0 0))] w3.heap.size s v v ((L.take t).map (ptC i l k x))) := HM.out.below BN.out; clear t5 BN VC no; have t10 : (0 : Nat) = 0 := rfl))
              go_roundw
              case rel => exact ⟨t + 1, v9, by omega, by go_num, HM⟩
              case measure => simp [intOf]; omega
          · have d4 : decide (c.l < (l : Int) + (k : Int)) = false := decide_eq_false hr
            have SP : Hid (spk i l k c = false) := by show _ = _; simp [spk, hr]
            clear hp hq hr
            have LL : Hid ((L.take (t + 1)).map (ptC i l k x) = (L.take t).map (ptC i l k x) ++ [c]) := by show _ = _; rw [take_more HX.out, List.map_append]; simp [ptC_no SP.out]
            skip
            have t0 : (0 : Nat) = 0 := rfl
            go_upto_region 9 with (first
              | (have qq := t1; (with_reducible refine at_store ?_); refine store_lawC _ c.cs wr.heap.size 0 rfl rfl VZ.out.2 size_cell c.one ?_; intro wb _ r9 h9 B9; have VC : Hid (Vr wb wr.heap.size c.cs) := ⟨r9, h9⟩; have BN : Hid (Below wr.heap.size wr wb) := BN.out.trans B9; have c0 : wb.cell? ⟨wr.heap.size, 0, none⟩ = some (.int .i64 c.n) := VC.out.cell 0 _ rfl; have c1 : wb.cell? ⟨wr.heap.size, 1, none⟩ = some (.int .i64 c.l) := VC.out.cell 1 _ rfl; have n3 : wb.cell? ⟨w1.heap.size, 3, none⟩ = some (.int .i64 (i : Int)) := (by rw [← EN.out]; exact ((HM.out.below BN.out).var (List.mem_of_getElem? (i := 1) rfl)).cell 3 _ rfl); have n4 : wb.cell? ⟨w1.heap.size, 4, none⟩ = some (.int .i64 (k : Int)) := (by rw [← EC.out]; exact ((HM.out.below BN.out).var (List.mem_of_getElem? (i := 1) rfl)).cell 4 _ rfl); have n5 : wb.cell? ⟨w1.heap.size, 5, none⟩ = some (.int .u32 (l : Int)) := (by rw [← EL.out]; exact ((HM.out.below BN.out).var (List.mem_of_getElem? (i := 1) rfl)).cell 5 _ rfl); have no : wb.cell? ⟨w3.heap.size, 4, none⟩ = some v := (HM.out.below BN.out).o.cell 4 _ rfl; clear r9 h9 B9 VZ t1; have t2 : (0 : Nat) = 0 := rfl)
              | (have qq := t0; (with_reducible refine at_alloc ?_); refine new_lawC _ ce0.cs zero_cell ?_; intro wa X9 B9 l9; have VZ : Hid (Vr wa wr.heap.size ce0.cs) := X9; have BN : Hid (Below wr.heap.size wr wa) := B9; clear X9 B9 l9 t0; have t1 : (0 : Nat) = 0 := rfl))
            clear nx nv c0 c1 n3 n4 n5
            go_wp2_with (first
              | (have qq := t12; (with_reducible refine at_store ?_); refine set_law1 _ rfl (.tmp 68) (.tmp 67) 26 rfl (rmc s v) w3.heap.size 4 v9 rfl rfl HM.out.o (by show 4 < 5; omega) HM.out.g.one.1 HM.out.g.one.2 sz_cells ?_; intro wg X9 G9; have HM : Hid (Ms w wg B [(w.heap.size, rmc s (.slice (some ⟨g, 0, none⟩) n cap)), (w1.heap.size, x.cs), (w2.heap.size, rmc (fun _ => 0) (.slice none 0 0))] w3.heap.size s v9 v9 ((L.take (t + 1)).map (ptC i l k x))) := HM.out.put G9 X9; clear X9 G9 t12)
              | (have qq := t11; refine push_lawG _ rfl (.tmp 64) (.tmp 66) rfl B HM.out.lb v ((L.take t).map (ptC i l k x)) wb.heap.size c rfl rfl HM.out.g VL.out KN.out ?_; intro v9 wf O9 G9; have O8 : Hid (Og B wf v9 ((L.take (t + 1)).map (ptC i l k x))) := (by rw [← LL.out] at O9; exact O9); have HM : Hid (Ms w wf B [(w.heap.size, rmc s (.slice (some ⟨g, 0, none⟩) n cap)), (w1.heap.size, x.cs), (w2.heap.size, rmc (fun _ => 0) (.slice none 0 0))] w3.heap.size s v v9 ((L.take (t + 1)).map (ptC i l k x))) := HM.out.push G9 O8.out; clear O9 G9 O8 VL t11; have t12 : (0 : Nat) = 0 := rfl)
              | (have qq := t10; refine one_lawG _ rfl (.tmp 65) c rfl rfl ?_; intro we X9 B9 _; have VL : Hid (Vr we wb.heap.size c.cs) := X9; have HM : Hid (Ms w we B [(w.heap.size, rmc s (.slice (some ⟨g, 0, none⟩) n cap)), (w1.heap.size, x.cs), (w2.heap.size, rmc (fun _ => 0) (.slice none 0 0))] w3.heap.size s v v ((L.take t).map (ptC i l k x))) := HM.out.below B9; clear X9 B9 t10; have t11 : (0 : Nat) = 0 := rfl)
              | (have qq := t2; refine load_law _ (by rfl) 51 (.tmp 8) rfl wr.heap.size 0 c.cs rfl rowy_cell VC.out.1 ?_; have HM : Hid (Ms w wb B [(w.heap.size, rmc s (.slice (some ⟨g, 0, none⟩) n cap)), (w1.heap.size, x.cs), (w2.heap.size, rmc (fun _ => 0) (.slice none 0 0))] w3.heap.size s v v ((L.take t).map (ptC i l k x))) := HM.out.below BN.out; clear t2 BN VC no; have t10 : (0 : Nat) = 0 := rfl))
            go_roundw
            case rel => exact ⟨t + 1, v9, by omega, by go_num, HM⟩
            case measure => simp [intOf]; omega
        · have d3 : decide (c.l ≥ (l : Int)) = false := decide_eq_false hq
          have d3' : ¬ c.l ≥ (l : Int) := hq
          have SP : Hid (spk i l k c = false) := by show _ = _; simp [spk, hq]
          clear hp hq
          have LL : Hid ((L.take (t + 1)).map (ptC i l k x) = (L.take t).map (ptC i l k x) ++ [c]) := by show _ = _; rw [take_more HX.out, List.map_append]; simp [ptC_no SP.out]
          skip
          have t0 : (0 : Nat) = 0 := rfl
          go_upto_region 9 with (first
            | (have qq := t1; (with_reducible refine at_store ?_); refine store_lawC _ c.cs wr.heap.size 0 rfl rfl VZ.out.2 size_cell c.one ?_; intro wb _ r9 h9 B9; have VC : Hid (Vr wb wr.heap.size c.cs) := ⟨r9, h9⟩; have BN : Hid (Below wr.heap.size wr wb) := BN.out.trans B9; have c0 : wb.cell? ⟨wr.heap.size, 0, none⟩ = some (.int .i64 c.n) := VC.out.cell 0 _ rfl; have c1 : wb.cell? ⟨wr.heap.size, 1, none⟩ = some (.int .i64 c.l) := VC.out.cell 1 _ rfl; have n3 : wb.cell? ⟨w1.heap.size, 3, none⟩ = some (.int .i64 (i : Int)) := (by rw [← EN.out]; exact ((HM.out.below BN.out).var (List.mem_of_getElem? (i := 1) rfl)).cell 3 _ rfl); have n4 : wb.cell? ⟨w1.heap.size, 4, none⟩ = some (.int .i64 (k : Int)) := (by rw [← EC.out]; exact ((HM.out.below BN.out).var (List.mem_of_getElem? (i := 1) rfl)).cell 4 _ rfl); have n5 : wb.cell? ⟨w1.heap.size, 5, none⟩ = some (.int .u32 (l : Int)) := (by rw [← EL.out]; exact ((HM.out.below BN.out).var (List.mem_of_getElem? (i := 1) rfl)).cell 5 _ rfl); have no : wb.cell? ⟨w3.heap.size, 4, none⟩ = some v := (HM.out.below BN.out).o.cell 4 _ rfl; clear r9 h9 B9 VZ t1; have t2 : (0 : Nat) = 0 := rfl)
            | (have qq := t0; (with_reducible refine at_alloc ?_); refine new_lawC _ ce0.cs zero_cell ?_; intro wa X9 B9 l9; have VZ : Hid (Vr wa wr.heap.size ce0.cs) := X9; have BN : Hid (Below wr.heap.size wr wa) := B9; clear X9 B9 l9 t0; have t1 : (0 : Nat) = 0 := rfl))
          clear nx nv c0 c1 n3 n4 n5
          go_wp2_with (first
            | (have qq := t12; (with_reducible refine at_store ?_); refine set_law1 _ rfl (.tmp 68) (.tmp 67) 26 rfl (rmc s v) w3.heap.size 4 v9 rfl rfl HM.out.o (by show 4 < 5; omega) HM.out.g.one.1 HM.out.g.one.2 sz_cells ?_; intro wg X9 G9; have HM : Hid (Ms w wg B [(w.heap.size, rmc s (.slice (some ⟨g, 0, none⟩) n cap)), (w1.heap.size, x.cs), (w2.heap.size, rmc (fun _ => 0) (.slice none 0 0))] w3.heap.size s v9 v9 ((L.take (t + 1)).map (ptC i l k x))) := HM.out.put G9 X9; clear X9 G9 t12)
            | (have qq := t11; refine push_lawG _ rfl (.tmp 64) (.tmp 66) rfl B HM.out.lb v ((L.take t).map (ptC i l k x)) wb.heap.size c rfl rfl HM.out.g VL.out KN.out ?_; intro v9 wf O9 G9; have O8 : Hid (Og B wf v9 ((L.take (t + 1)).map (ptC i l k x))) := (by rw [← LL.out] at O9; exact O9); have HM : Hid (Ms w wf B [(w.heap.size, rmc s (.slice (some ⟨g, 0, none⟩) n cap)), (w1.heap.size, x.cs), (w2.heap.size, rmc (fun _ => 0) (.slice none 0 0))] w3.heap.size s v v9 ((L.take (t + 1)).map (ptC i l k x))) := HM.out.push G9 O8.out; clear O9 G9 O8 VL t11; have t12 : (0 : Nat) = 0 := rfl)
            | (have qq := t10; refine one_lawG _ rfl (.tmp 65) c rfl rfl ?_; intro we X9 B9 _; have VL : Hid (Vr we wb.heap.size c.cs) := X9; have HM : Hid (Ms w we B [(w.heap.size, rmc s (.slice (some ⟨g, 0, none⟩) n cap)), (w1.heap.size, x.cs), (w2.heap.size, rmc (fun _ => 0) (.slice none 0 0))] w3.heap.size s v v ((L.take t).map (ptC i l k x))) := HM.out.below B9; clear X9 B9 t10; have t11 : (0 : Nat) = 0 := rfl)
            | (have qq := t2; refine load_law _ (by rfl) 51 (.tmp 8) rfl wr.heap.size 0 c.cs rfl rowy_cell VC.out.1 ?_; have HM : Hid (Ms w wb B [(w.heap.size, rmc s (.slice (some ⟨g, 0, none⟩) n cap)), (w1.heap.size, x.cs), (w2.heap.size, rmc (fun _ => 0) (.slice none 0 0))] w3.heap.size s v v ((L.take t).map (ptC i l k x))) := HM.out.below BN.out; clear t2 BN VC no; have t10 : (0 : Nat) = 0 := rfl))
          go_roundw
          case rel => exact ⟨t + 1, v9, by omega, by go_num, HM⟩
          case measure => simp [intOf]; omega
      · have d1 : decide (c.n = (i : Int)) = false := decide_eq_false hp
        have d2 : (c.n == (i : Int)) = false := beq_eq_false_iff_ne.2 hp
        have SP : Hid (spk i l k c = false) := by show _ = _; simp [spk, hp]
        clear hp
        have LL : Hid ((L.take (t + 1)).map (ptC i l k x) = (L.take t).map (ptC i l k x) ++ [c]) := by show _ = _; rw [take_more HX.out, List.map_append]; simp [ptC_no SP.out]
        skip
        have t0 : (0 : Nat) = 0 := rfl
        go_upto_region 9 with (first
          | (have qq := t1; (with_reducible refine at_store ?_); refine store_lawC _ c.cs wr.heap.size 0 rfl rfl VZ.out.2 size_cell c.one ?_; intro wb _ r9 h9 B9; have VC : Hid (Vr wb wr.heap.size c.cs) := ⟨r9, h9⟩; have BN : Hid (Below wr.heap.size wr wb) := BN.out.trans B9; have c0 : wb.cell? ⟨wr.heap.size, 0, none⟩ = some (.int .i64 c.n) := VC.out.cell 0 _ rfl; have c1 : wb.cell? ⟨wr.heap.size, 1, none⟩ = some (.int .i64 c.l) := VC.out.cell 1 _ rfl; have n3 : wb.cell? ⟨w1.heap.size, 3, none⟩ = some (.int .i64 (i : Int)) := (by rw [← EN.out]; exact ((HM.out.below BN.out).var (List.mem_of_getElem? (i := 1) rfl)).cell 3 _ rfl); have n4 : wb.cell? ⟨w1.heap.size, 4, none⟩ = some (.int .i64 (k : Int)) := (by rw [← EC.out]; exact ((HM.out.below BN.out).var (List.mem_of_getElem? (i := 1) rfl)).cell 4 _ rfl); have n5 : wb.cell? ⟨w1.heap.size, 5, none⟩ = some (.int .u32 (l : Int)) := (by rw [← EL.out]; exact ((HM.out.below BN.out).var (List.mem_of_getElem? (i := 1) rfl)).cell 5 _ rfl); have no : wb.cell? ⟨w3.heap.size, 4, none⟩ = some v := (HM.out.below BN.out).o.cell 4 _ rfl; clear r9 h9 B9 VZ t1; have t2 : (0 : Nat) = 0 := rfl)
          | (have qq := t0; (with_reducible refine at_alloc ?_); refine new_lawC _ ce0.cs zero_cell ?_; intro wa X9 B9 l9; have VZ : Hid (Vr wa wr.heap.size ce0.cs) := X9; have BN : Hid (Below wr.heap.size wr wa) := B9; clear X9 B9 l9 t0; have t1 : (0 : Nat) = 0 := rfl))
        clear nx nv c0 c1 n3 n4 n5
        go_wp2_with (first
          | (have qq := t12; (with_reducible refine at_store ?_); refine set_law1 _ rfl (.tmp 68) (.tmp 67) 26 rfl (rmc s v) w3.heap.size 4 v9 rfl rfl HM.out.o (by show 4 < 5; omega) HM.out.g.one.1 HM.out.g.one.2 sz_cells ?_; intro wg X9 G9; have HM : Hid (Ms w wg B [(w.heap.size, rmc s (.slice (some ⟨g, 0, none⟩) n cap)), (w1.heap.size, x.cs), (w2.heap.size, rmc (fun _ => 0) (.slice none 0 0))] w3.heap.size s v9 v9 ((L.take (t + 1)).map (ptC i l k x))) := HM.out.put G9 X9; clear X9 G9 t12)
          | (have qq := t11; refine push_lawG _ rfl (.tmp 64) (.tmp 66) rfl B HM.out.lb v ((L.take t).map (ptC i l k x)) wb.heap.size c rfl rfl HM.out.g VL.out KN.out ?_; intro v9 wf O9 G9; have O8 : Hid (Og B wf v9 ((L.take (t + 1)).map (ptC i l k x))) := (by rw [← LL.out] at O9; exact O9); have HM : Hid (Ms w wf B [(w.heap.size, rmc s (.slice (some ⟨g, 0, none⟩) n cap)), (w1.heap.size, x.cs), (w2.heap.size, rmc (fun _ => 0) (.slice none 0 0))] w3.heap.size s v v9 ((L.take (t + 1)).map (ptC i l k x))) := HM.out.push G9 O8.out; clear O9 G9 O8 VL t11; have t12 : (0 : Nat) = 0 := rfl)
          | (have qq := t10; refine one_lawG _ rfl (.tmp 65) c rfl rfl ?_; intro we X9 B9 _; have VL : Hid (Vr we wb.heap.size c.cs) := X9; have HM : Hid (Ms w we B [(w.heap.size, rmc s (.slice (some ⟨g, 0, none⟩) n cap)), (w1.heap.size, x.cs), (w2.heap.size, rmc (fun _ => 0) (.slice none 0 0))] w3.heap.size s v v ((L.take t).map (ptC i l k x))) := HM.out.below B9; clear X9 B9 t10; have t11 : (0 : Nat) = 0 := rfl)
          | (have qq := t2; refine load_law _ (by rfl) 51 (.tmp 8) rfl wr.heap.size 0 c.cs rfl rowy_cell VC.out.1 ?_; have HM : Hid (Ms w wb B [(w.heap.size, rmc s (.slice (some ⟨g, 0, none⟩) n cap)), (w1.heap.size, x.cs), (w2.heap.size, rmc (fun _ => 0) (.slice none 0 0))] w3.heap.size s v v ((L.take t).map (ptC i l k x))) := HM.out.below BN.out; clear t2 BN VC no; have t10 : (0 : Nat) = 0 := rfl))
        go_roundw
        case rel => exact ⟨t + 1, v9, by omega, by go_num, HM⟩
        case measure => simp [intOf]; omega
    · have k1 : ¬ (t : Int) < (n : Int) := by omega
      have HM : Hid (Ms w wr B [(w.heap.size, rmc s (.slice ao n cap)), (w1.heap.size, x.cs), (w2.heap.size, rmc (fun _ => 0) (.slice none 0 0))] w3.heap.size s v v (L.map (ptC i l k x) ++ pnew i l x L 0)) := by
        have z := HM.out
        rw [List.take_of_length_le (by have := NN.out; omega)] at z
        show Ms _ _ _ _ _ _ _ _ (L.map (ptC i l k x) ++ [])
        rw [List.append_nil]
        exact z
      have n5 : wr.cell? ⟨w1.heap.size, 5, none⟩ = some (.int .u32 (l : Int)) := by rw [← EL.out]; exact (HM.out.var (List.mem_of_getElem? (i := 1) rfl)).cell 5 _ rfl
      go_wp2
      clear nv n5
      go_loopw [10] (fun iv wr => ∃ (t : Nat) (v : Value), t ≤ k ∧ iv = .int .i64 ((l + t : Nat) : Int) ∧ Hid (Ms w wr B [(w.heap.size, rmc s (.slice ao n cap)), (w1.heap.size, x.cs), (w2.heap.size, rmc (fun _ => 0) (.slice none 0 0))] w3.heap.size s v v (L.map (ptC i l k x) ++ pnew i l x L t))) (fun iv _ => l + k - (intOf iv).toNat)
      case atStart => exact ⟨0, _, Nat.zero_le _, rfl, HM⟩
      case round =>
        clear HM
        obtain ⟨t, v, ht, rfl, HM⟩ := hrel
        obtain ⟨lt, hlt9⟩ : ∃ z, z = l + t := ⟨_, rfl⟩
        have LT : Hid (lt = l + t) := hlt9
        have k0 : (0 : Int) ≤ (lt : Int) := by omega
        have kw : IntKind.i64.wrap ((lt : Int) + 1) = ((lt + 1 : Nat) : Int) := by rw [IntKind.wrap_i64]; omega
        have BN : Hid (Below wr.heap.size wr wr) := Below.refl _ _
        have n3 : wr.cell? ⟨w1.heap.size, 3, none⟩ = some (.int .i64 (i : Int)) := (by rw [← EN.out]; exact ((HM.out.below BN.out).var (List.mem_of_getElem? (i := 1) rfl)).cell 3 _ rfl)
        have n4 : wr.cell? ⟨w1.heap.size, 4, none⟩ = some (.int .i64 (k : Int)) := (by rw [← EC.out]; exact ((HM.out.below BN.out).var (List.mem_of_getElem? (i := 1) rfl)).cell 4 _ rfl)
        have n5 : wr.cell? ⟨w1.heap.size, 5, none⟩ = some (.int .u32 (l : Int)) := (by rw [← EL.out]; exact ((HM.out.below BN.out).var (List.mem_of_getElem? (i := 1) rfl)).cell 5 _ rfl)
        rw [← hlt9]
        by_cases hlt : t < k
        · have k1 : (lt : Int) < (l : Int) + (k : Int) := by omega
          have PC2 : Hid (∀ W, Below w.heap.size w W → Calls Try.prog 33 #[.agg (rmc s (.slice ao n cap)).toArray, .int .i64 (i : Int), .int .i64 (lt : Int)] W fun e w' => e = .returned (.int .i64 (plc i (lt : Int) L 0)) ∧ Below W.heap.size W w') := fun W hW => by rw [hlt9]; exact PC.out W t hW
          have KN : Hid ((L.map (ptC i l k x) ++ pnew i l x L t).length ≤ 100000) := by have := pnew_len i l x L t; have := NN.out; show _ ≤ _; rw [List.length_append, List.length_map]; omega
          have LL0 : Hid (pnew i l x L (t + 1) = pnew i l x L t ++ (if plc i (lt : Int) L 0 < 0 then [⟨i, (lt : Int), x⟩] else [])) := by rw [hlt9]; rfl
          clear GN PC hlt9
          generalize plc i (lt : Int) L 0 = pz at PC2 LL0
          have t0 : (0 : Nat) = 0 := rfl
          by_cases hz : pz < 0
          · have d1 : decide (pz < 0) = true := decide_eq_true hz
            have LL : Hid (L.map (ptC i l k x) ++ pnew i l x L (t + 1) = (L.map (ptC i l k x) ++ pnew i l x L t) ++ [⟨i, (lt : Int), x⟩]) := by show _ = _; rw [LL0.out, if_pos hz, List.append_assoc]
            clear LL0 hz
            go_wp2_with (first
              | (have qq := t6; (with_reducible refine at_store ?_); refine set_law1 _ rfl (.tmp 102) (.tmp 101) 26 rfl (rmc s v) w3.heap.size 4 v9 rfl rfl HM.out.o (by show 4 < 5; omega) HM.out.g.one.1 HM.out.g.one.2 sz_cells ?_; intro wg X9 G9; have HM : Hid (Ms w wg B [(w.heap.size, rmc s (.slice ao n cap)), (w1.heap.size, x.cs), (w2.heap.size, rmc (fun _ => 0) (.slice none 0 0))] w3.heap.size s v9 v9 (L.map (ptC i l k x) ++ pnew i l x L (t + 1))) := HM.out.put G9 X9; clear X9 G9 t6)
              | (have qq := t5; refine push_lawG _ rfl (.tmp 93) (.tmp 100) rfl B HM.out.lb v (L.map (ptC i l k x) ++ pnew i l x L t) wb.heap.size (⟨i, (lt : Int), x⟩ : Ce) rfl rfl HM.out.g VL.out KN.out ?_; intro v9 wf O9 G9; have O8 : Hid (Og B wf v9 (L.map (ptC i l k x) ++ pnew i l x L (t + 1))) := (by rw [← LL.out] at O9; exact O9); have HM : Hid (Ms w wf B [(w.heap.size, rmc s (.slice ao n cap)), (w1.heap.size, x.cs), (w2.heap.size, rmc (fun _ => 0) (.slice none 0 0))] w3.heap.size s v v9 (L.map (ptC i l k x) ++ pnew i l x L (t + 1))) := HM.out.push G9 O8.out; clear O9 G9 O8 VL t5; have t6 : (0 : Nat) = 0 := rfl)
              | (have qq := t4; refine one_lawG _ rfl (.tmp 99) (⟨i, (lt : Int), x⟩ : Ce) rfl rfl ?_; intro we X9 B9 _; have VL : Hid (Vr we wb.heap.size (⟨i, (lt : Int), x⟩ : Ce).cs) := X9; have HM : Hid (Ms w we B [(w.heap.size, rmc s (.slice ao n cap)), (w1.heap.size, x.cs), (w2.heap.size, rmc (fun _ => 0) (.slice none 0 0))] w3.heap.size s v v (L.map (ptC i l k x) ++ pnew i l x L t)) := HM.out.below B9; clear X9 B9 no n3 n4 n5 t4; have t5 : (0 : Nat) = 0 := rfl)
              | (have qq := t3; refine build_law _ rfl 51 _ rfl (.agg (⟨i, (lt : Int), x⟩ : Ce).cs.toArray) (by kernel_rfl) ?_; clear t3; have t4 : (0 : Nat) = 0 := rfl)
              | (have qq := t2; refine load_law _ (by rfl) 49 (.tmp 3) rfl w1.heap.size 0 x.cs rfl rowy_rspot (HM.out.var (List.mem_of_getElem? (i := 1) rfl)).1 ?_; clear t2; have t3 : (0 : Nat) = 0 := rfl)
              | (have qq := t1; go_at_call 33; refine (PC2.out _ HM.out.h).mono ?_; rintro e wb ⟨rfl, B9⟩; have HM : Hid (Ms w wb B [(w.heap.size, rmc s (.slice ao n cap)), (w1.heap.size, x.cs), (w2.heap.size, rmc (fun _ => 0) (.slice none 0 0))] w3.heap.size s v v (L.map (ptC i l k x) ++ pnew i l x L t)) := HM.out.below B9; have BN : Hid (Below wb.heap.size wb wb) := Below.refl _ _; clear n3 n4 n5; have n3 : wb.cell? ⟨w1.heap.size, 3, none⟩ = some (.int .i64 (i : Int)) := (by rw [← EN.out]; exact ((HM.out.below BN.out).var (List.mem_of_getElem? (i := 1) rfl)).cell 3 _ rfl); have n4 : wb.cell? ⟨w1.heap.size, 4, none⟩ = some (.int .i64 (k : Int)) := (by rw [← EC.out]; exact ((HM.out.below BN.out).var (List.mem_of_getElem? (i := 1) rfl)).cell 4 _ rfl); have n5 : wb.cell? ⟨w1.heap.size, 5, none⟩ = some (.int .u32 (l : Int)) := (by rw [← EL.out]; exact ((HM.out.below BN.out).var (List.mem_of_getElem? (i := 1) rfl)).cell 5 _ rfl); have no : wb.cell? ⟨w3.heap.size, 4, none⟩ = some v := HM.out.o.cell 4 _ rfl; clear B9 BN t1; have t2 : (0 : Nat) = 0 := rfl)
              | (have qq := t0; refine load_law _ (by rfl) 28 (.tmp 2) rfl w.heap.size 0 (rmc s (.slice ao n cap)) rfl rowy_rmap (HM.out.var (List.mem_of_getElem? (i := 0) rfl)).1 ?_; clear t0; have t1 : (0 : Nat) = 0 := rfl))
            go_roundw
            case rel => exact ⟨t + 1, v9, by omega, by rw [show l + (t + 1) = lt + 1 by have := LT.out; omega]; go_num, HM⟩
            case measure => simp [intOf]; have := LT.out; omega
          · have d1 : decide (pz < 0) = false := decide_eq_false hz
            have LL : Hid (L.map (ptC i l k x) ++ pnew i l x L (t + 1) = (L.map (ptC i l k x) ++ pnew i l x L t)) := by show _ = _; rw [LL0.out, if_neg hz, List.append_nil]
            clear LL0
            go_wp2_with (first
              | (have qq := t1; go_at_call 33; refine (PC2.out _ HM.out.h).mono ?_; rintro e wb ⟨rfl, B9⟩; have HM : Hid (Ms w wb B [(w.heap.size, rmc s (.slice ao n cap)), (w1.heap.size, x.cs), (w2.heap.size, rmc (fun _ => 0) (.slice none 0 0))] w3.heap.size s v v (L.map (ptC i l k x) ++ pnew i l x L t)) := HM.out.below B9; have BN : Hid (Below wb.heap.size wb wb) := Below.refl _ _; clear n3 n4 n5; have n3 : wb.cell? ⟨w1.heap.size, 3, none⟩ = some (.int .i64 (i : Int)) := (by rw [← EN.out]; exact ((HM.out.below BN.out).var (List.mem_of_getElem? (i := 1) rfl)).cell 3 _ rfl); have n4 : wb.cell? ⟨w1.heap.size, 4, none⟩ = some (.int .i64 (k : Int)) := (by rw [← EC.out]; exact ((HM.out.below BN.out).var (List.mem_of_getElem? (i := 1) rfl)).cell 4 _ rfl); have n5 : wb.cell? ⟨w1.heap.size, 5, none⟩ = some (.int .u32 (l : Int)) := (by rw [← EL.out]; exact ((HM.out.below BN.out).var (List.mem_of_getElem? (i := 1) rfl)).cell 5 _ rfl); have no : wb.cell? ⟨w3.heap.size, 4, none⟩ = some v := HM.out.o.cell 4 _ rfl; clear B9 BN t1; have t2 : (0 : Nat) = 0 := rfl)
              | (have qq := t0; refine load_law _ (by rfl) 28 (.tmp 2) rfl w.heap.size 0 (rmc s (.slice ao n cap)) rfl rowy_rmap (HM.out.var (List.mem_of_getElem? (i := 0) rfl)).1 ?_; clear t0; have t1 : (0 : Nat) = 0 := rfl))
            go_roundw
            case rel => exact ⟨t + 1, v, by omega, by rw [show l + (t + 1) = lt + 1 by have := LT.out; omega]; go_num, by rw [LL.out]; exact HM⟩
            case measure => simp [intOf]; have := LT.out; omega
        · have k1 : ¬ (lt : Int) < (l : Int) + (k : Int) := by omega
          obtain rfl : t = k := by omega
          have HF : Hid (Fs w wr B w.heap.size w2.heap.size w3.heap.size (rmc s (.slice ao n cap)) (rmc (fun _ => 0) (.slice none 0 0)) s v (L.map (ptC i l t x) ++ pnew i l x L t)) := HM.out.fs (List.mem_of_getElem? (i := 0) rfl) (List.mem_of_getElem? (i := 2) rfl) (by have := LO.out; omega) (by have := LO.out; have := LO.out; omega)
          clear HM PC BN hlt9
          go_wp2
          clear n3 n4 n5
          have HF : Hid (Fs w wr.drew B w.heap.size w2.heap.size w3.heap.size (rmc s (.slice ao n cap)) (rmc (fun _ => 0) (.slice none 0 0)) s v (L.map (ptC i l t x) ++ pnew i l x L t)) := HF.out.below (below_dr (Below.refl _ _) 1)
          refine wp_region_held_drew (S := fun w' => w'.rangeAt w3.heap.size 0 (rmc s v) ∧ w'.rangeAt w.heap.size 0 (rmc s (.slice ao n cap))) (by kernel_rfl) ⟨HF.out.o.1, HF.out.a.1⟩ (fun hS => ?_)
          obtain ⟨y1, hx0⟩ : ∃ x, x = wr.drew := ⟨_, rfl⟩
          rw [← hx0] at hS HF ⊢
          clear hx0
          refine take_lawH 0 (some 103) (.agg (rmc s v).toArray) rfl rfl (by kernel_rfl) (by kernel_rfl) (by kernel_rfl) (fun _ _ _ h => h) (Or.inl ⟨by rfl, fun w' hw' => by exact exec_loadN 28 (.tmp 6) rfl _ rfl _ _ (load_cells rowy_rmap hw'.1)⟩) hS ?_
          simp only [Act.put, List.setIfInBounds_toArray, List.set_cons_zero, List.set_cons_succ]
          refine take_lawH 1 (some 104) (.agg (rmc s (.slice ao n cap)).toArray) rfl rfl (by kernel_rfl) (by kernel_rfl) (by kernel_rfl) (fun _ _ _ h => h) (Or.inl ⟨by rfl, fun w' hw' => by exact exec_loadN 28 (.tmp 2) rfl _ rfl _ _ (load_cells rowy_rmap hw'.2)⟩) hS ?_
          simp only [Act.put, List.setIfInBounds_toArray, List.set_cons_zero, List.set_cons_succ]
          refine take_lawH 2 (some 105) (.agg (rmc s v).toArray) rfl rfl (by kernel_rfl) (by kernel_rfl) (by kernel_rfl) (fun _ _ _ h => h) (Or.inl ⟨by rfl, fun w' hw' => by exact exec_loadN 28 (.tmp 6) rfl _ rfl _ _ (load_cells rowy_rmap hw'.1)⟩) hS ?_
          simp only [Act.put, List.setIfInBounds_toArray, List.set_cons_zero, List.set_cons_succ]
          refine wpAnyH_ready (rs := [3]) (by kernel_rfl) (by simp) ?_
          refine AllReadyH.cons rfl (fun K hK => ?_) AllReadyH.nil
          refine step_callG y1 rfl (some 106) rfl 50 #[.tmp 104, .tmp 105] _ rfl (fun _ _ => rfl) #[.agg (rmc s (.slice ao n cap)).toArray, .agg (rmc s v).toArray] (by simp only [List.map_toArray, List.map_cons, List.map_nil]; rfl) (fun v9 w' => Pls w' v9 (gn (L.map (ptC i l t x) ++ pnew i l x L t) L) ∧ (∀ k, Blk v9 k → y1.heap.size ≤ k ∧ k < w'.heap.size) ∧ Below y1.heap.size y1 w') ((GN.out y1 HF.out.h HF.out.g.cl.1).mono fun e w' ⟨v9, h1, h2, h3, h4⟩ => ⟨v9, h1, h2, h3, h4⟩) ?_
          rintro vg y2 ⟨P9, K9, B9⟩
          have VG : Hid (Pls y2 vg (gn (L.map (ptC i l t x) ++ pnew i l x L t) L)) := P9
          have KG : Hid (∀ k, Blk vg k → B ≤ k ∧ k < y2.heap.size) := fun k hk => ⟨Nat.le_trans HF.out.lt.2.2.2.2.2.2 (K9 k hk).1, (K9 k hk).2⟩
          have HF : Hid (Fs w y2 B w.heap.size w2.heap.size w3.heap.size (rmc s (.slice ao n cap)) (rmc (fun _ => 0) (.slice none 0 0)) s v (L.map (ptC i l t x) ++ pnew i l x L t)) := HF.out.below B9
          have hS : y2.rangeAt w3.heap.size 0 (rmc s v) ∧ y2.rangeAt w.heap.size 0 (rmc s (.slice ao n cap)) := ⟨HF.out.o.1, HF.out.a.1⟩
          clear P9 K9 B9
          refine hK.out _ _ hS (fun _ => ?_)
          simp only [Act.put, List.setIfInBounds_toArray, List.set_cons_zero, List.set_cons_succ]
          clear hK K
          refine wpAnyH_ready (rs := [4]) (by kernel_rfl) (by simp) ?_
          refine AllReadyH.cons rfl (fun K hK => ?_) AllReadyH.nil
          refine step_storeG y2 rfl none rfl (.tmp 4) (.tmp 103) 28 rfl w2.heap.size (rmc (fun _ => 0) (.slice none 0 0)) (rmc s v) rfl rfl HF.out.r rfl size_rmap (rmc_one HF.out.g) ?_
          intro y3 X9 G9
          have VG : Hid (Pls y3 vg (gn (L.map (ptC i l t x) ++ pnew i l x L t) L)) := VG.out.ch (P := fun k => k = w2.heap.size) (Ch.of_grown (P := fun k => k = w2.heap.size) G9 rfl) (fun k hk e => by have := KG.out k hk; have := HF.out.lt; subst e; omega)
          have KG : Hid (∀ k, Blk vg k → B ≤ k ∧ k < y3.heap.size) := fun k hk => ⟨(KG.out k hk).1, Nat.lt_of_lt_of_le (KG.out k hk).2 G9.size⟩
          have HF : Hid (Fs w y3 B w.heap.size w2.heap.size w3.heap.size (rmc s (.slice ao n cap)) (rmc s v) s v (L.map (ptC i l t x) ++ pnew i l x L t)) := HF.out.put G9 X9 (Nat.succ_pos _)
          have hS : y3.rangeAt w3.heap.size 0 (rmc s v) ∧ y3.rangeAt w.heap.size 0 (rmc s (.slice ao n cap)) := ⟨HF.out.o.1, HF.out.a.1⟩
          clear X9 G9
          refine hK.out _ _ hS (fun _ => ?_)
          simp only [Act.put]
          clear hK K
          refine take_lawH 5 (some 5) (vg) rfl rfl (by kernel_rfl) (by kernel_rfl) (by kernel_rfl) (fun _ _ _ h => h) (Or.inl ⟨by rfl, fun w' hw' => by rfl⟩) hS ?_
          simp only [Act.put, List.setIfInBounds_toArray, List.set_cons_zero, List.set_cons_succ]
          refine wpAnyH_done (by kernel_rfl) ?_ _
          go_wp2
          refine bodyPost_ret (v := .tuple #[.agg (rmc s v).toArray, vg]) (results_cv rfl _ _ w2.heap.size _ vg rowy_rmap rfl rfl HF.out.r.1) rfl ⟨v, vg, rfl, ?_, ?_, ?_, ?_, HF.out.h⟩
          · exact HF.out.g.cl.1
          · intro k hk; have z := HF.out.g.cl.2 k hk; have := LO.out; have := HF.out.lt; exact ⟨by omega, z.2⟩
          · exact VG.out
          · intro k hk; have z := KG.out k hk; have := LO.out; have := HF.out.lt; exact ⟨by omega, z.2⟩
end Go.Proofs.Ytedmmpognhpbdaa.pm
