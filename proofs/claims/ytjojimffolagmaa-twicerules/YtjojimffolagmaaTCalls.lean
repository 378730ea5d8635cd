/- What twice's Times, Double and Mul answer. No claim of its own. -/
import Derived.Test.YtjojimffolagmaaTTim
namespace Go.Proofs.Ytjojimffolagmaa
open Go.RowKit

set_option linter.unusedSimpArgs false in
set_option maxRecDepth 20000 in
set_option maxHeartbeats 4000000 in
theorem times_any (v : Value) (xs : List Int) (n : Nat) (w : World) (hv : Byt w v xs) (hl : xs.length = 16) (hn : n ≤ 65536) :
    Calls Try.prog 10 #[v, .int .i64 n] w fun e w' => ∃ g, e = .returned (.tuple #[.slice (some ⟨g, 0, none⟩) 16 16, .int .i64 0]) ∧ Ar w' g 0 .u8 (bt16 (tdn (nm16 xs) n)) ∧ w.heap.size ≤ g ∧ Below w.heap.size w w' := by
  have HOF : Hid (Calls Try.prog 19 #[v] w fun e w' => e = .returned (.agg (ints .u8 xs)) ∧ Below w.heap.size w w') := tof_any v xs w hv hl
  have HX : Hid (B16 xs) := ⟨hl, hv.all⟩
  have HE : Hid (bt16 (tdn (nm16 xs) 0) = xs) := bt_nm xs ⟨hl, hv.all⟩
  have HD : Hid (∀ k w', Calls Try.prog 20 #[.agg (ints .u8 (bt16 (tdn (nm16 xs) k)))] w' fun e w'' => e = .returned (.agg (ints .u8 (bt16 (tdn (nm16 xs) (k + 1))))) ∧ Below w'.heap.size w' w'') := fun k w' => pdbl_any _ w' (tdn_lt _ k (nm16_lt xs hv.all))
  have HLS : Hid (∀ k w', Calls Try.prog 21 #[.agg (ints .u8 (bt16 (tdn (nm16 xs) k)))] w' fun e w'' => ∃ g, e = .returned (.slice (some ⟨g, 0, none⟩) 16 16) ∧ Ar w'' g 0 .u8 (bt16 (tdn (nm16 xs) k)) ∧ w'.heap.size ≤ g ∧ Below w'.heap.size w' w'') := fun k w' => tlst_any _ w' (bt16_len _) (bt16_all _)
  have HLN : Hid (∀ k, (bt16 (tdn (nm16 xs) k)).length = 16) := fun k => bt16_len _
  obtain ⟨ao, ca, rfl, ha1, ha2, ha3, ha4, ha5⟩ := hv
  rw [hl] at HOF ha1 ⊢
  clear ha3 ha4 ha5 hl
  generalize tdn (nm16 xs) = f at *
  have n0 : (0 : Int) ≤ (n : Int) := by omega
  have n1 : (n : Int) ≤ 65536 := by omega
  go_enter Try.func10, Try.ntmps10
  go_wp2_with (first
    | (have q2 := s2; refine store_lawF _ rfl (.tmp 6) (.tmp 19) 40 rfl .u8 z16 xs w1.heap.size rfl rfl HA2.out 16 i_poly z16_len HX.out.1 ?_; intro w3 A3 B3; have HA3 : Hid (Ar w3 w1.heap.size 0 .u8 (bt16 (f 0))) := (by show Ar _ _ _ _ _; rw [HE.out]; exact A3); clear A3)
    | (have q1 := s1; refine new_lawF _ rfl 40 rfl .u8 z16 z_poly ?_; intro w2 A2 B2 s2; have HA2 : Hid (Ar w2 w1.heap.size 0 .u8 z16) := A2; clear A2)
    | (go_at_call 19; refine HOF.out.mono ?_; rintro e w1 ⟨rfl, B1⟩; have s1 := B1.size))
  have BW : Below w.heap.size w w3 := (B1.trans (B2.mono (by omega))).trans (B3.mono (by omega))
  generalize hg0 : w.heap.size = g0 at *
  generalize w1.heap.size = g1 at *
  go_loopw [21] (fun i wr => ∃ k : Nat, k ≤ n ∧ i = .int .i64 k ∧ Ar wr g1 0 .u8 (bt16 (f k)) ∧ Below g0 w wr) (fun i _ => n - (intOf i).toNat)
  case atStart => exact ⟨0, Nat.zero_le _, rfl, HA3.out, BW⟩
  case round =>
    obtain ⟨k, hk, rfl, hA, hB⟩ := hrel
    obtain ⟨wa, rfl⟩ : ∃ wx, wx = wr := ⟨_, rfl⟩
    have k0 : (0 : Int) ≤ (k : Int) := by omega
    have q1 : IntKind.i64.wrap (k : Int) = k := by rw [IntKind.wrap_i64]; omega
    have HA : Hid (Ar wa g1 0 .u8 (bt16 (f k))) := hA
    have HB : Hid (Below g0 w wa) := hB
    have og : g1 < wa.heap.size := hA.lt (by rw [HLN.out]; omega)
    clear hA hB
    by_cases hlt : k < n
    · have k1 : (k : Int) < (n : Int) := by omega
      have HDk := HD.out k
      have HD' : Hid (∀ w', Calls Try.prog 20 #[.agg (ints .u8 (bt16 (f k)))] w' fun e w'' => e = .returned (.agg (ints .u8 (bt16 (f (k + 1))))) ∧ Below w'.heap.size w' w'') := HDk
      have HL2 : Hid ((bt16 (f k)).length = 16 ∧ (bt16 (f (k + 1))).length = 16) := ⟨HLN.out _, HLN.out _⟩
      clear HDk
      generalize bt16 (f k) = p0 at *
      go_wp2_with (first
        | (have q8 := s8; refine store_lawF _ rfl (.tmp 6) (.tmp 24) 40 rfl .u8 p0 (bt16 (f (k + 1))) g1 rfl rfl HA8.out 16 i_poly HL2.out.1 HL2.out.2 ?_; intro w9 A9 B9; have HA9 : Hid (Ar w9 g1 0 .u8 (bt16 (f (k + 1)))) := A9; have HB9 : Hid (Below g0 w w9) := HB8.out.trans (B9.mono (by omega)); clear A9 B9)
        | (go_at_call 20; refine (HD'.out _).mono ?_; rintro e w8 ⟨rfl, B8⟩; have s8 := B8.size; have HA8 : Hid (Ar w8 g1 0 .u8 p0) := HA.out.below B8 (by omega); have HB8 : Hid (Below g0 w w8) := HB.out.trans (B8.mono (by omega)); clear B8)
        | (refine load_law _ rfl (.tmp 6) 40 rfl .u8 p0 g1 0 rfl HA.out 16 5 Try.underlying40 i_poly HL2.out.1 ?_))
      go_roundw
      case rel => exact ⟨k + 1, by omega, by go_num, HA9.out, HB9.out⟩
      case measure => simp [intOf]; omega
    · have hkn : k = n := by omega
      subst hkn
      have HL' := HLS.out k
      have HLL : Hid (∀ w', Calls Try.prog 21 #[.agg (ints .u8 (bt16 (f k)))] w' fun e w'' => ∃ g, e = .returned (.slice (some ⟨g, 0, none⟩) 16 16) ∧ Ar w'' g 0 .u8 (bt16 (f k)) ∧ w'.heap.size ≤ g ∧ Below w'.heap.size w' w'') := HL'
      clear HL'
      go_wp2_with (first
        | (go_at_call 21; refine (HLL.out _).mono ?_; rintro e w8 ⟨g8, rfl, A8, h8, B8⟩; have s8 := B8.size; have HA8 : Hid (Ar w8 g8 0 .u8 (bt16 (f k))) := A8; have HB8 : Hid (Below g0 w w8) := HB.out.trans (B8.mono (by omega)); clear B8 A8)
        | (refine load_law _ rfl (.tmp 6) 40 rfl .u8 (bt16 (f k)) g1 0 rfl HA.out 16 5 Try.underlying40 i_poly (HLN.out k) ?_))
      go_ret2
      exact ⟨g8, rfl, HA8.out, by omega, by rw [hg0]; exact HB8.out⟩

set_option maxHeartbeats 2000000 in
theorem times_no (v : Value) (xs : List Int) (n : Int) (w : World) (hv : Byt w v xs) (h : xs.length ≠ 16 ∨ n < 0 ∨ 65536 < n) :
    Calls Try.prog 10 #[v, .int .i64 n] w fun e w' => e = .returned (.tuple #[.slice none 0 0, .int .i64 2]) ∧ w' = w := by
  obtain ⟨ao, ca, rfl, ha1, ha2, -, -, -⟩ := hv
  by_cases hl : xs.length = 16
  · rw [hl] at ha1 ⊢
    by_cases h0 : n < 0
    · have h0' : (n < 0) = True := by simp [h0]
      go_enter Try.func10, Try.ntmps10
      go_wp2
      go_ret2
      exact ⟨rfl, rfl⟩
    · have h1 : 65536 < n := by omega
      have h2 : 0 ≤ n := by omega
      go_enter Try.func10, Try.ntmps10
      go_wp2
      go_ret2
      exact ⟨rfl, rfl⟩
  · have h2 : ((xs.length : Int) != 16) = true := by simp; omega
    go_enter Try.func10, Try.ntmps10
    go_wp2
    go_ret2
    exact ⟨rfl, rfl⟩

set_option maxHeartbeats 2000000 in
theorem double_any (v : Value) (xs : List Int) (w : World) (hv : Byt w v xs) (hl : xs.length = 16) :
    Calls Try.prog 9 #[v] w fun e w' => ∃ g, e = .returned (.tuple #[.slice (some ⟨g, 0, none⟩) 16 16, .int .i64 0]) ∧ Ar w' g 0 .u8 (bt16 (td (nm16 xs))) ∧ w.heap.size ≤ g ∧ Below w.heap.size w w' := by
  have HT : Hid (Calls Try.prog 10 #[v, .int .i64 1] w fun e w' => ∃ g, e = .returned (.tuple #[.slice (some ⟨g, 0, none⟩) 16 16, .int .i64 0]) ∧ Ar w' g 0 .u8 (bt16 (td (nm16 xs))) ∧ w.heap.size ≤ g ∧ Below w.heap.size w w') := times_any v xs 1 w hv hl (by omega)
  generalize bt16 (td (nm16 xs)) = zs at *
  clear hv hl
  go_enter Try.func9, Try.ntmps9
  go_wp2_with (go_at_call 10; refine HT.out.mono ?_; rintro e w1 ⟨g1, rfl, A1, h1, B1⟩)
  go_ret2
  exact ⟨g1, rfl, A1, h1, B1⟩

set_option maxHeartbeats 2000000 in
theorem double_no (v : Value) (xs : List Int) (w : World) (hv : Byt w v xs) (h : xs.length ≠ 16) :
    Calls Try.prog 9 #[v] w fun e w' => e = .returned (.tuple #[.slice none 0 0, .int .i64 2]) ∧ w' = w := by
  have HT : Hid (Calls Try.prog 10 #[v, .int .i64 1] w fun e w' => e = .returned (.tuple #[.slice none 0 0, .int .i64 2]) ∧ w' = w) := times_no v xs 1 w hv (Or.inl h)
  clear hv h
  go_enter Try.func9, Try.ntmps9
  go_wp2_with (go_at_call 10; refine HT.out.mono ?_; rintro e w1 ⟨rfl, hw⟩; obtain rfl := hw.symm)
  go_ret2
  exact ⟨rfl, rfl⟩

set_option linter.unusedSimpArgs false in
set_option maxHeartbeats 2000000 in
theorem mul_any (va vb : Value) (xs ys : List Int) (w : World) (ha : Byt w va xs) (hb : Byt w vb ys) (hl : xs.length = 16) (hm : ys.length = 16) :
    Calls Try.prog 15 #[va, vb] w fun e w' => ∃ g, e = .returned (.tuple #[.slice (some ⟨g, 0, none⟩) 16 16, .int .i64 0]) ∧ Ar w' g 0 .u8 (bt16 (tp (nm16 xs) (nm16 ys))) ∧ w.heap.size ≤ g ∧ Below w.heap.size w w' := by
  have H1 : Hid (Calls Try.prog 19 #[va] w fun e w' => e = .returned (.agg (ints .u8 xs)) ∧ Below w.heap.size w w') := tof_any va xs w ha hl
  have H2 : Hid (∀ w', Below w.heap.size w w' → Calls Try.prog 19 #[vb] w' fun e w'' => e = .returned (.agg (ints .u8 ys)) ∧ Below w'.heap.size w' w'') := fun w' h => tof_any vb ys w' (hb.below h) hm
  have H3 : Hid (∀ w', Calls Try.prog 25 #[.agg (ints .u8 xs), .agg (ints .u8 ys)] w' fun e w'' => e = .returned (.agg (ints .u8 (bt16 (tp (nm16 xs) (nm16 ys))))) ∧ Below w'.heap.size w' w'') := fun w' => by
    have := ttim_any (nm16 xs) (nm16 ys) w' (nm16_lt xs ha.all)
    rwa [bt_nm xs ⟨hl, ha.all⟩, bt_nm ys ⟨hm, hb.all⟩] at this
  have H4 : Hid (∀ w', Calls Try.prog 21 #[.agg (ints .u8 (bt16 (tp (nm16 xs) (nm16 ys))))] w' fun e w'' => ∃ g, e = .returned (.slice (some ⟨g, 0, none⟩) 16 16) ∧ Ar w'' g 0 .u8 (bt16 (tp (nm16 xs) (nm16 ys))) ∧ w'.heap.size ≤ g ∧ Below w'.heap.size w' w'') := fun w' => tlst_any _ w' (bt16_len _) (bt16_all _)
  generalize bt16 (tp (nm16 xs) (nm16 ys)) = zs at *
  obtain ⟨ao, ca, rfl, ha1, ha2, -, -, -⟩ := ha
  obtain ⟨bo, cb, rfl, hb1, hb2, -, -, -⟩ := hb
  rw [hl] at H1 ha1 ⊢
  rw [hm] at H2 hb1 ⊢
  clear hl hm
  go_enter Try.func15, Try.ntmps15
  go_wp2_with (first
    | (have q3 := s3; go_at_call 21; refine (H4.out _).mono ?_; rintro e w4 ⟨g4, rfl, A4, h4, B4⟩)
    | (have q2 := s2; go_at_call 25; refine (H3.out _).mono ?_; rintro e w3 ⟨rfl, B3⟩; have s3 := B3.size)
    | (have q1 := s1; go_at_call 19; refine (H2.out _ B1).mono ?_; rintro e w2 ⟨rfl, B2⟩; have s2 := B2.size)
    | (go_at_call 19; refine H1.out.mono ?_; rintro e w1 ⟨rfl, B1⟩; have s1 := B1.size))
  go_ret2
  exact ⟨g4, rfl, A4, by omega, ((B1.trans (B2.mono (by omega))).trans (B3.mono (by omega))).trans (B4.mono (by omega))⟩

set_option maxHeartbeats 2000000 in
theorem mul_no (va vb : Value) (xs ys : List Int) (w : World) (ha : Byt w va xs) (hb : Byt w vb ys) (h : xs.length ≠ 16 ∨ ys.length ≠ 16) :
    Calls Try.prog 15 #[va, vb] w fun e w' => e = .returned (.tuple #[.slice none 0 0, .int .i64 2]) ∧ w' = w := by
  obtain ⟨ao, ca, rfl, ha1, ha2, -, -, -⟩ := ha
  obtain ⟨bo, cb, rfl, hb1, hb2, -, -, -⟩ := hb
  by_cases hl : xs.length = 16
  · rw [hl] at ha1 ⊢
    have h2 : ((ys.length : Int) != 16) = true := by simp; omega
    go_enter Try.func15, Try.ntmps15
    go_wp2
    go_ret2
    exact ⟨rfl, rfl⟩
  · have h2 : ((xs.length : Int) != 16) = true := by simp; omega
    go_enter Try.func15, Try.ntmps15
    go_wp2
    go_ret2
    exact ⟨rfl, rfl⟩
end Go.Proofs.Ytjojimffolagmaa
