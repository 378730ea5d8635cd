/- What head's Bytes answers. No claim of its own. -/
import Derived.Test.YtpmakkjcpoillaaDoorHRgt
import Derived.Test.YtpmakkjcpoillaaDoorHCat
namespace Go.Proofs.YtpmakkjcpoillaaDoor.he
open Go.RowKit Go.Proofs.YtpmakkjcpoillaaDoor.fa
set_option maxRecDepth 20000

/-- 'make([]byte, 0, n)' -/
theorem room_law {ops : Array Oper} {rest : List Oper} {o : Oper} {a : Act} {Q : Exit → Act → World → Prop} (w : World) (hg : o.guard = none) (l c : Operand) (hop : o.op = Op.makeSlice 28 l c) (B : Nat) (hB : B ≤ w.heap.size)
    (n : Nat) (hl : a.eval l = .int .i64 0) (hc : a.eval c = .int .i64 (n : Int)) (hn : n ≤ 1099511627776)
    (hK : ∀ w', Own B w' (.slice (some ⟨w.heap.size, 0, none⟩) 0 n) [] → Below B w w' → w.heap.size < w'.heap.size → wpList Tryd.prog ops Q rest (a.put o.dst (.slice (some ⟨w.heap.size, 0, none⟩) 0 n)) w') :
    wpList Tryd.prog ops Q (o :: rest) a w := by
  obtain ⟨i0, hi, hz0, hz1, hz2⟩ := info_parts info_u8
  refine wpList_make_own w hg l c 28 hop B 5 i0 (.int .u8 0) 1 Tryd.underlying28 hi hz0 hz1 .i64 .i64 (n : Int) n hl hc rfl (by rw [hz2]; omega) (by simp only [maxLen]; omega) hB fun w' h1 h2 => ?_
  exact hK w' h1 ((Below.refl B w).grown h2 hB (fun k hk => by cases hk)) (h1.lt w.heap.size rfl).2

theorem own_low {B : Nat} {w w' : World} {v : Value} {xs : List Int} (h : Own B w v xs) (hb : Below w.heap.size w w') : Own B w' v xs := World.ownsRow.kept h ⟨hb.os, hb.tape, hb.output, hb.size, fun j hj _ => hb.block j hj⟩ (by cases hv : v.ownBlock <;> simp) (row := none)
theorem own_less {w : World} {B B' : Nat} {v : Value} {xs : List Int} (h : Own B w v xs) (hB : B' ≤ B) : Own B' w v xs := by
  obtain ⟨a1, a2⟩ := h
  refine ⟨a1, ?_⟩
  rcases a2 with e1 | ⟨g', c', u', e1, e2, e3⟩
  · exact Or.inl e1
  · exact Or.inr ⟨g', c', u', e1, by omega, e3⟩
/-- the seven numbers' bytes -/
def prts (k n c l e t : Int) : List (List Int) := [[k], [n], [c], [0], be l 4, be e 8, be t 8]
theorem prts_hb (k n c l e t : Int) : cats (prts k n c l e t) 7 = hb k n c l e t := by simp [cats, prts, hb]
theorem be1 (x : Int) (h : 0 ≤ x ∧ x ≤ 255) : (le x (clamp 1 8)).reverse = [x] := by
  show [x % 256] = [x]
  rw [Int.emod_eq_of_lt h.1 (by omega)]
theorem clamp48 : clamp 4 8 = 4 ∧ clamp 8 8 = 8 ∧ clamp 1 8 = 1 := by decide

set_option maxHeartbeats 2000000 in
theorem hbytes_no (k n c l e t : Int) (w : World) (h : ¬ Rh k n c) :
    Calls Tryd.prog 43 #[.agg (hv k n c l e t).toArray] w fun x w' => x = .returned (.tuple #[.slice none 0 0, .int .i64 2]) ∧ Below w.heap.size w w' := by
  have t0 : (0 : Nat) = 0 := rfl
  by_cases h1 : 1 ≤ k ∧ k ≤ 4
  · have K1 : Hid (true = decide (1 ≤ k ∧ k ≤ 4)) := by show _ = _; simp; omega
    by_cases h2 : 0 ≤ n ∧ n ≤ 255
    · have K2 : Hid (true = decide (0 ≤ n ∧ n ≤ 255)) := by show _ = _; simp; omega
      have K3 : Hid (false = decide (0 ≤ c ∧ c ≤ 255)) := by
        show _ = _
        have h3 : ¬ (0 ≤ c ∧ c ≤ 255) := fun q => h ⟨h1.1, h1.2, h2.1, h2.2, q.1, q.2⟩
        simp; omega
      clear h h1 h2
      go_enter Tryd.func43, Tryd.ntmps43
      go_wp2_with (first
        | (have q3 := t3; go_at_call 56; refine (byte_any c _ false K3.out).mono ?_; rintro e9 w9 ⟨rfl, hw⟩; obtain rfl := hw.symm; clear t3; have t4 : (0 : Nat) = 0 := rfl)
        | (have q2 := t2; go_at_call 56; refine (byte_any n _ true K2.out).mono ?_; rintro e9 w9 ⟨rfl, hw⟩; obtain rfl := hw.symm; clear t2; have t3 : (0 : Nat) = 0 := rfl)
        | (have q1 := t1; go_at_call 51; refine (kind_any k _ true K1.out).mono ?_; rintro e9 w9 ⟨rfl, hw⟩; obtain rfl := hw.symm; clear t1; have t2 : (0 : Nat) = 0 := rfl)
        | (have q0 := t0; refine box_lawC _ (hv k n c l e t) rfl ?_; intro w1 V1 B1 s1; have c0 := V1.cell 0 _ rfl; have c1 := V1.cell 1 _ rfl; have c2 := V1.cell 2 _ rfl; have HV : Hid (Vr w1 w.heap.size (hv k n c l e t)) := V1; clear V1 t0; have t1 : (0 : Nat) = 0 := rfl))
      go_ret2
      exact ⟨rfl, B1⟩
    · have K2 : Hid (false = decide (0 ≤ n ∧ n ≤ 255)) := by show _ = _; simp; omega
      clear h h1 h2
      go_enter Tryd.func43, Tryd.ntmps43
      go_wp2_with (first
        | (have q2 := t2; go_at_call 56; refine (byte_any n _ false K2.out).mono ?_; rintro e9 w9 ⟨rfl, hw⟩; obtain rfl := hw.symm; clear t2; have t3 : (0 : Nat) = 0 := rfl)
        | (have q1 := t1; go_at_call 51; refine (kind_any k _ true K1.out).mono ?_; rintro e9 w9 ⟨rfl, hw⟩; obtain rfl := hw.symm; clear t1; have t2 : (0 : Nat) = 0 := rfl)
        | (have q0 := t0; refine box_lawC _ (hv k n c l e t) rfl ?_; intro w1 V1 B1 s1; have c0 := V1.cell 0 _ rfl; have c1 := V1.cell 1 _ rfl; have c2 := V1.cell 2 _ rfl; have HV : Hid (Vr w1 w.heap.size (hv k n c l e t)) := V1; clear V1 t0; have t1 : (0 : Nat) = 0 := rfl))
      go_ret2
      exact ⟨rfl, B1⟩
  · have K1 : Hid (false = decide (1 ≤ k ∧ k ≤ 4)) := by show _ = _; simp; omega
    clear h h1
    go_enter Tryd.func43, Tryd.ntmps43
    go_wp2_with (first
      | (have q1 := t1; go_at_call 51; refine (kind_any k _ false K1.out).mono ?_; rintro e9 w9 ⟨rfl, hw⟩; obtain rfl := hw.symm; clear t1; have t2 : (0 : Nat) = 0 := rfl)
      | (have q0 := t0; refine box_lawC _ (hv k n c l e t) rfl ?_; intro w1 V1 B1 s1; have c0 := V1.cell 0 _ rfl; have c1 := V1.cell 1 _ rfl; have c2 := V1.cell 2 _ rfl; have HV : Hid (Vr w1 w.heap.size (hv k n c l e t)) := V1; clear V1 t0; have t1 : (0 : Nat) = 0 := rfl))
    go_ret2
    exact ⟨rfl, B1⟩

set_option maxHeartbeats 8000000 in
theorem hbytes_yes (k n c l e t : Int) (w : World) (h : Rh k n c) (hl : 0 ≤ l ∧ l ≤ 4294967295) (he : 0 ≤ e ∧ e ≤ 18446744073709551615) (ht : 0 ≤ t ∧ t ≤ 18446744073709551615) (hT : Tab w) :
    Calls Tryd.prog 43 #[.agg (hv k n c l e t).toArray] w fun x w' => ∃ v, x = .returned (.tuple #[v, .int .i64 0]) ∧ Own w.heap.size w' v (hb k n c l e t) ∧ Below w.heap.size w w' := by
  have t0 : (0 : Nat) = 0 := rfl
  obtain ⟨r1, r2, r3, r4, r5, r6⟩ := h
  have K1 : Hid (true = decide (1 ≤ k ∧ k ≤ 4)) := by show _ = _; simp; omega
  have K2 : Hid (true = decide (0 ≤ n ∧ n ≤ 255)) := by show _ = _; simp; omega
  have K3 : Hid (true = decide (0 ≤ c ∧ c ≤ 255)) := by show _ = _; simp; omega
  have SO : Hid (∀ w, Calls Tryd.prog 57 #[.agg (hv k n c l e t).toArray] w fun x w' => x = .returned (.agg #[.int .u64 k, .int .u64 n, .int .u64 c, .int .u64 0, .int .u64 l, .int .u64 e, .int .u64 t]) ∧ Below w.heap.size w w') := fun w => of_any k n c l e t w (by omega) (by omega) (by omega) hl
  have SK : Hid (∀ x, 0 ≤ x ∧ x ≤ 255 → ∀ w, Calls Tryd.prog 58 #[.int .u64 x, .int .i64 1] w fun e w' => ∃ v, e = .returned v ∧ Byt w' v [x] ∧ Below w.heap.size w w') := fun x hx w => by
    have := big_any x 1 w (by omega)
    rw [be1 x hx] at this
    exact this
  have S4 : Hid (∀ w, Calls Tryd.prog 58 #[.int .u64 l, .int .i64 4] w fun e w' => ∃ v, e = .returned v ∧ Byt w' v (be l 4) ∧ Below w.heap.size w w') := fun w => by
    have := big_any l 4 w (by omega)
    rw [clamp48.1] at this
    exact this
  have S8 : Hid (∀ x, 0 ≤ x ∧ x ≤ 18446744073709551615 → ∀ w, Calls Tryd.prog 58 #[.int .u64 x, .int .i64 8] w fun e w' => ∃ v, e = .returned v ∧ Byt w' v (be x 8) ∧ Below w.heap.size w w') := fun x hx w => by
    have := big_any x 8 w hx
    rw [clamp48.2.1] at this
    exact this
  have HE : Hid (cats (prts k n c l e t) 7 = hb k n c l e t) := prts_hb k n c l e t
  have HP : Hid ((0 ≤ k ∧ k ≤ 255) ∧ (0 ≤ n ∧ n ≤ 255) ∧ (0 ≤ c ∧ c ≤ 255)) := ⟨by omega, by omega, by omega⟩
  have H8 : Hid ((0 ≤ e ∧ e ≤ 18446744073709551615) ∧ (0 ≤ t ∧ t ≤ 18446744073709551615)) := ⟨he, ht⟩
  have HT : Hid (Tab w) := hT
  have HS : Hid (∀ j, j < 7 → cats (prts k n c l e t) (j + 1) = cats (prts k n c l e t) j ++ (prts k n c l e t).getD j []) := fun j hj => cats_succ _ j hj
  have HLN : Hid (∀ j, j ≤ 7 → (cats (prts k n c l e t) j).length ≤ 80000) := fun j hj => by
    have := cats_len (prts k n c l e t) (fun i hi => by
      have hi : i < 7 := hi
      match i, hi with
      | 0, _ => simp [prts]
      | 1, _ => simp [prts]
      | 2, _ => simp [prts]
      | 3, _ => simp [prts]
      | 4, _ => simp [prts, be_len]
      | 5, _ => simp [prts, be_len]
      | 6, _ => simp [prts, be_len]) j hj
    omega
  generalize hP : cats (prts k n c l e t) = P at *
  have H0 : Hid (P 0 = []) := by rw [← hP]; rfl
  generalize hb k n c l e t = Z at *
  clear r1 r2 r3 r4 r5 r6 hl he ht hT hP
  go_enter Tryd.func43, Tryd.ntmps43
  go_wp2_with (first
    | (have q6 := t6; go_at_call 57; refine (SO.out _).mono ?_; rintro e9 w3 ⟨rfl, B3⟩; have O3 : Hid (Own w.heap.size w3 (.slice (some ⟨w1.heap.size, 0, none⟩) 0 24) []) := own_low O2.out B3; have C3 : Hid (Below w.heap.size w w3) := C2.out.trans (B3.mono C2.out.size); clear B3 t6 c0 c1 c2 c3 c4 c5)
    | (have q4 := t4; at_make; refine room_law _ rfl _ _ rfl w1.heap.size (Nat.le_refl _) 24 rfl rfl (by omega) ?_; intro w2 o2 B2 s2; have O2 : Hid (Own w.heap.size w2 (.slice (some ⟨w1.heap.size, 0, none⟩) 0 24) []) := own_less o2 (by omega); have A2 := HV.out.below B2 s1; have c0 := A2.cell 0 _ rfl; have c1 := A2.cell 1 _ rfl; have c2 := A2.cell 2 _ rfl; have c3 := A2.cell 3 _ rfl; have c4 := A2.cell 4 _ rfl; have c5 := A2.cell 5 _ rfl; have C2 : Hid (Below w.heap.size w w2) := B1.trans (B2.mono (by omega)); clear A2 o2 B2 t4; have t6 : (0 : Nat) = 0 := rfl)
    | (have q3 := t3; go_at_call 56; refine (byte_any c _ true K3.out).mono ?_; rintro e9 w9 ⟨rfl, hw⟩; obtain rfl := hw.symm; clear t3; have t4 : (0 : Nat) = 0 := rfl)
    | (have q2 := t2; go_at_call 56; refine (byte_any n _ true K2.out).mono ?_; rintro e9 w9 ⟨rfl, hw⟩; obtain rfl := hw.symm; clear t2; have t3 : (0 : Nat) = 0 := rfl)
    | (have q1 := t1; go_at_call 51; refine (kind_any k _ true K1.out).mono ?_; rintro e9 w9 ⟨rfl, hw⟩; obtain rfl := hw.symm; clear t1; have t2 : (0 : Nat) = 0 := rfl)
    | (have q0 := t0; refine box_lawC _ (hv k n c l e t) rfl ?_; intro w1 V1 B1 s1; have c0 := V1.cell 0 _ rfl; have c1 := V1.cell 1 _ rfl; have c2 := V1.cell 2 _ rfl; have HV : Hid (Vr w1 w.heap.size (hv k n c l e t)) := V1; clear V1 t0; have t1 : (0 : Nat) = 0 := rfl))
  go_loopw [26, 4] (fun i o wr => ((i = .int .i64 0 ∧ Own w.heap.size wr o (P 0)) ∨ (i = .int .i64 1 ∧ Own w.heap.size wr o (P 1)) ∨ (i = .int .i64 2 ∧ Own w.heap.size wr o (P 2)) ∨ (i = .int .i64 3 ∧ Own w.heap.size wr o (P 3)) ∨ (i = .int .i64 4 ∧ Own w.heap.size wr o (P 4)) ∨ (i = .int .i64 5 ∧ Own w.heap.size wr o (P 5)) ∨ (i = .int .i64 6 ∧ Own w.heap.size wr o (P 6)) ∨ (i = .int .i64 7 ∧ Own w.heap.size wr o (P 7))) ∧ Below w.heap.size w wr) (fun i _ _ => 7 - (intOf i).toNat)
  case atStart => exact ⟨.inl ⟨rfl, by rw [H0.out]; exact O3.out⟩, C3.out⟩
  case round =>
    clear O2 O3 C2 C3
    obtain ⟨hrel, b4⟩ := hrel
    have C4 : Hid (Below w.heap.size w wr) := b4
    have z4 := b4.size
    have TT : Hid (Tab wr) := HT.out.below b4
    clear b4
    obtain ⟨rfl, o4⟩ | ⟨rfl, o4⟩ | ⟨rfl, o4⟩ | ⟨rfl, o4⟩ | ⟨rfl, o4⟩ | ⟨rfl, o4⟩ | ⟨rfl, o4⟩ | ⟨rfl, o4⟩ := hrel
    · have hcell : wr.cell? ⟨0, 0, none⟩ = some (.int .i64 1) := TT.out 0 (by omega)
      have E1 : Hid (P 1 = P 0 ++ [k]) := HS.out 0 (by omega)
      have L1 : Hid ((P 0).length ≤ 80000) := HLN.out 0 (by omega)
      have LB : Hid (([k]).length ≤ 8) := by show _ ≤ _; simp
      have O4 : Hid (Own w.heap.size wr u4 (P 0)) := o4
      clear o4
      have u0 : (0 : Nat) = 0 := rfl
      go_wp2_with (first
        | (have q := u0; refine idx_law _ rfl (.tmp 25) (.tmp 26) 77 rfl _ _ (.int .u64 k) rfl rfl (by kernel_rfl) ?_; clear u0)
        | (at_builtin; refine pushs_law _ rfl (.tmp 30) (.tmp 35) rfl w.heap.size z5 _ _ (P 0) ([k]) rfl rfl O5.out Y5.out (by have := L1.out; have := LB.out; omega) ?_; intro v6 w6 o6 B6; have O6 : Hid (Own w.heap.size w6 v6 (P 0 ++ [k])) := o6; clear o6)
        | (go_at_call 58; refine (SK.out _ HP.out.1 _).mono ?_; rintro e9 w5 ⟨v5, rfl, y5, B5⟩; have Y5 : Hid (Byt w5 v5 ([k])) := y5; have O5 : Hid (Own w.heap.size w5 u4 (P 0)) := own_low O4.out B5; have C5 : Hid (Below w.heap.size w w5) := C4.out.trans (B5.mono z4); have z5 := C5.out.size; clear y5 B5))
      go_roundw
      case rel => exact ⟨.inr (.inl ⟨rfl, by rw [E1.out]; exact O6.out⟩), C5.out.trans B6⟩
      case measure => simp [intOf]
    · have hcell : wr.cell? ⟨0, 1, none⟩ = some (.int .i64 1) := TT.out 1 (by omega)
      have E1 : Hid (P 2 = P 1 ++ [n]) := HS.out 1 (by omega)
      have L1 : Hid ((P 1).length ≤ 80000) := HLN.out 1 (by omega)
      have LB : Hid (([n]).length ≤ 8) := by show _ ≤ _; simp
      have O4 : Hid (Own w.heap.size wr u4 (P 1)) := o4
      clear o4
      have u0 : (0 : Nat) = 0 := rfl
      go_wp2_with (first
        | (have q := u0; refine idx_law _ rfl (.tmp 25) (.tmp 26) 77 rfl _ _ (.int .u64 n) rfl rfl (by kernel_rfl) ?_; clear u0)
        | (at_builtin; refine pushs_law _ rfl (.tmp 30) (.tmp 35) rfl w.heap.size z5 _ _ (P 1) ([n]) rfl rfl O5.out Y5.out (by have := L1.out; have := LB.out; omega) ?_; intro v6 w6 o6 B6; have O6 : Hid (Own w.heap.size w6 v6 (P 1 ++ [n])) := o6; clear o6)
        | (go_at_call 58; refine (SK.out _ HP.out.2.1 _).mono ?_; rintro e9 w5 ⟨v5, rfl, y5, B5⟩; have Y5 : Hid (Byt w5 v5 ([n])) := y5; have O5 : Hid (Own w.heap.size w5 u4 (P 1)) := own_low O4.out B5; have C5 : Hid (Below w.heap.size w w5) := C4.out.trans (B5.mono z4); have z5 := C5.out.size; clear y5 B5))
      go_roundw
      case rel => exact ⟨.inr (.inr (.inl ⟨rfl, by rw [E1.out]; exact O6.out⟩)), C5.out.trans B6⟩
      case measure => simp [intOf]
    · have hcell : wr.cell? ⟨0, 2, none⟩ = some (.int .i64 1) := TT.out 2 (by omega)
      have E1 : Hid (P 3 = P 2 ++ [c]) := HS.out 2 (by omega)
      have L1 : Hid ((P 2).length ≤ 80000) := HLN.out 2 (by omega)
      have LB : Hid (([c]).length ≤ 8) := by show _ ≤ _; simp
      have O4 : Hid (Own w.heap.size wr u4 (P 2)) := o4
      clear o4
      have u0 : (0 : Nat) = 0 := rfl
      go_wp2_with (first
        | (have q := u0; refine idx_law _ rfl (.tmp 25) (.tmp 26) 77 rfl _ _ (.int .u64 c) rfl rfl (by kernel_rfl) ?_; clear u0)
        | (at_builtin; refine pushs_law _ rfl (.tmp 30) (.tmp 35) rfl w.heap.size z5 _ _ (P 2) ([c]) rfl rfl O5.out Y5.out (by have := L1.out; have := LB.out; omega) ?_; intro v6 w6 o6 B6; have O6 : Hid (Own w.heap.size w6 v6 (P 2 ++ [c])) := o6; clear o6)
        | (go_at_call 58; refine (SK.out _ HP.out.2.2 _).mono ?_; rintro e9 w5 ⟨v5, rfl, y5, B5⟩; have Y5 : Hid (Byt w5 v5 ([c])) := y5; have O5 : Hid (Own w.heap.size w5 u4 (P 2)) := own_low O4.out B5; have C5 : Hid (Below w.heap.size w w5) := C4.out.trans (B5.mono z4); have z5 := C5.out.size; clear y5 B5))
      go_roundw
      case rel => exact ⟨.inr (.inr (.inr (.inl ⟨rfl, by rw [E1.out]; exact O6.out⟩))), C5.out.trans B6⟩
      case measure => simp [intOf]
    · have hcell : wr.cell? ⟨0, 3, none⟩ = some (.int .i64 1) := TT.out 3 (by omega)
      have E1 : Hid (P 4 = P 3 ++ [0]) := HS.out 3 (by omega)
      have L1 : Hid ((P 3).length ≤ 80000) := HLN.out 3 (by omega)
      have LB : Hid (([0]).length ≤ 8) := by show _ ≤ _; simp
      have O4 : Hid (Own w.heap.size wr u4 (P 3)) := o4
      clear o4
      have u0 : (0 : Nat) = 0 := rfl
      go_wp2_with (first
        | (have q := u0; refine idx_law _ rfl (.tmp 25) (.tmp 26) 77 rfl _ _ (.int .u64 0) rfl rfl (by kernel_rfl) ?_; clear u0)
        | (at_builtin; refine pushs_law _ rfl (.tmp 30) (.tmp 35) rfl w.heap.size z5 _ _ (P 3) ([0]) rfl rfl O5.out Y5.out (by have := L1.out; have := LB.out; omega) ?_; intro v6 w6 o6 B6; have O6 : Hid (Own w.heap.size w6 v6 (P 3 ++ [0])) := o6; clear o6)
        | (go_at_call 58; refine (SK.out 0 (by omega) _).mono ?_; rintro e9 w5 ⟨v5, rfl, y5, B5⟩; have Y5 : Hid (Byt w5 v5 ([0])) := y5; have O5 : Hid (Own w.heap.size w5 u4 (P 3)) := own_low O4.out B5; have C5 : Hid (Below w.heap.size w w5) := C4.out.trans (B5.mono z4); have z5 := C5.out.size; clear y5 B5))
      go_roundw
      case rel => exact ⟨.inr (.inr (.inr (.inr (.inl ⟨rfl, by rw [E1.out]; exact O6.out⟩)))), C5.out.trans B6⟩
      case measure => simp [intOf]
    · have hcell : wr.cell? ⟨0, 4, none⟩ = some (.int .i64 4) := TT.out 4 (by omega)
      have E1 : Hid (P 5 = P 4 ++ be l 4) := HS.out 4 (by omega)
      have L1 : Hid ((P 4).length ≤ 80000) := HLN.out 4 (by omega)
      have LB : Hid ((be l 4).length ≤ 8) := by show _ ≤ _; simp [be_len]
      have O4 : Hid (Own w.heap.size wr u4 (P 4)) := o4
      clear o4
      have u0 : (0 : Nat) = 0 := rfl
      go_wp2_with (first
        | (have q := u0; refine idx_law _ rfl (.tmp 25) (.tmp 26) 77 rfl _ _ (.int .u64 l) rfl rfl (by kernel_rfl) ?_; clear u0)
        | (at_builtin; refine pushs_law _ rfl (.tmp 30) (.tmp 35) rfl w.heap.size z5 _ _ (P 4) (be l 4) rfl rfl O5.out Y5.out (by have := L1.out; have := LB.out; omega) ?_; intro v6 w6 o6 B6; have O6 : Hid (Own w.heap.size w6 v6 (P 4 ++ be l 4)) := o6; clear o6)
        | (go_at_call 58; refine (S4.out _).mono ?_; rintro e9 w5 ⟨v5, rfl, y5, B5⟩; have Y5 : Hid (Byt w5 v5 (be l 4)) := y5; have O5 : Hid (Own w.heap.size w5 u4 (P 4)) := own_low O4.out B5; have C5 : Hid (Below w.heap.size w w5) := C4.out.trans (B5.mono z4); have z5 := C5.out.size; clear y5 B5))
      go_roundw
      case rel => exact ⟨.inr (.inr (.inr (.inr (.inr (.inl ⟨rfl, by rw [E1.out]; exact O6.out⟩))))), C5.out.trans B6⟩
      case measure => simp [intOf]
    · have hcell : wr.cell? ⟨0, 5, none⟩ = some (.int .i64 8) := TT.out 5 (by omega)
      have E1 : Hid (P 6 = P 5 ++ be e 8) := HS.out 5 (by omega)
      have L1 : Hid ((P 5).length ≤ 80000) := HLN.out 5 (by omega)
      have LB : Hid ((be e 8).length ≤ 8) := by show _ ≤ _; simp [be_len]
      have O4 : Hid (Own w.heap.size wr u4 (P 5)) := o4
      clear o4
      have u0 : (0 : Nat) = 0 := rfl
      go_wp2_with (first
        | (have q := u0; refine idx_law _ rfl (.tmp 25) (.tmp 26) 77 rfl _ _ (.int .u64 e) rfl rfl (by kernel_rfl) ?_; clear u0)
        | (at_builtin; refine pushs_law _ rfl (.tmp 30) (.tmp 35) rfl w.heap.size z5 _ _ (P 5) (be e 8) rfl rfl O5.out Y5.out (by have := L1.out; have := LB.out; omega) ?_; intro v6 w6 o6 B6; have O6 : Hid (Own w.heap.size w6 v6 (P 5 ++ be e 8)) := o6; clear o6)
        | (go_at_call 58; refine (S8.out _ H8.out.1 _).mono ?_; rintro e9 w5 ⟨v5, rfl, y5, B5⟩; have Y5 : Hid (Byt w5 v5 (be e 8)) := y5; have O5 : Hid (Own w.heap.size w5 u4 (P 5)) := own_low O4.out B5; have C5 : Hid (Below w.heap.size w w5) := C4.out.trans (B5.mono z4); have z5 := C5.out.size; clear y5 B5))
      go_roundw
      case rel => exact ⟨.inr (.inr (.inr (.inr (.inr (.inr (.inl ⟨rfl, by rw [E1.out]; exact O6.out⟩)))))), C5.out.trans B6⟩
      case measure => simp [intOf]
    · have hcell : wr.cell? ⟨0, 6, none⟩ = some (.int .i64 8) := TT.out 6 (by omega)
      have E1 : Hid (P 7 = P 6 ++ be t 8) := HS.out 6 (by omega)
      have L1 : Hid ((P 6).length ≤ 80000) := HLN.out 6 (by omega)
      have LB : Hid ((be t 8).length ≤ 8) := by show _ ≤ _; simp [be_len]
      have O4 : Hid (Own w.heap.size wr u4 (P 6)) := o4
      clear o4
      have u0 : (0 : Nat) = 0 := rfl
      go_wp2_with (first
        | (have q := u0; refine idx_law _ rfl (.tmp 25) (.tmp 26) 77 rfl _ _ (.int .u64 t) rfl rfl (by kernel_rfl) ?_; clear u0)
        | (at_builtin; refine pushs_law _ rfl (.tmp 30) (.tmp 35) rfl w.heap.size z5 _ _ (P 6) (be t 8) rfl rfl O5.out Y5.out (by have := L1.out; have := LB.out; omega) ?_; intro v6 w6 o6 B6; have O6 : Hid (Own w.heap.size w6 v6 (P 6 ++ be t 8)) := o6; clear o6)
        | (go_at_call 58; refine (S8.out _ H8.out.2 _).mono ?_; rintro e9 w5 ⟨v5, rfl, y5, B5⟩; have Y5 : Hid (Byt w5 v5 (be t 8)) := y5; have O5 : Hid (Own w.heap.size w5 u4 (P 6)) := own_low O4.out B5; have C5 : Hid (Below w.heap.size w w5) := C4.out.trans (B5.mono z4); have z5 := C5.out.size; clear y5 B5))
      go_roundw
      case rel => exact ⟨.inr (.inr (.inr (.inr (.inr (.inr (.inr (⟨rfl, by rw [E1.out]; exact O6.out⟩))))))), C5.out.trans B6⟩
      case measure => simp [intOf]
    · have O4 : Hid (Own w.heap.size wr u4 (P 7)) := o4
      rw [HE.out] at O4
      clear o4
      go_wp2
      go_ret2
      exact ⟨_, rfl, O4.out, C4.out⟩
end Go.Proofs.YtpmakkjcpoillaaDoor.he
