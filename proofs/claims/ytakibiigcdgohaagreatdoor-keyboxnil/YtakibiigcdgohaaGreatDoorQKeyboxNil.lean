/- A nil key store answers as the document says, and so does a key store that is given a record of another length; of a record of 624 bytes: that it is written, and with how many operations. No condition. -/
import Derived.Test.YtakibiigcdgohaaGreatDoorCards
import Derived.Test.YtakibiigcdgohaaGreatDoorTie
import Derived.Test.YtakibiigcdgohaaGreatDoorA00
import Derived.Test.YtakibiigcdgohaaGreatDoorA01
import Derived.Test.YtakibiigcdgohaaGreatDoorA02
import Derived.Test.YtakibiigcdgohaaGreatDoorA03
import Derived.Test.YtakibiigcdgohaaGreatDoorA04
import Derived.Test.YtakibiigcdgohaaGreatDoorA05
import Derived.Test.YtakibiigcdgohaaGreatDoorA06
import Derived.Test.YtakibiigcdgohaaGreatDoorA07
import Derived.Test.YtakibiigcdgohaaGreatDoorA08
import Derived.Test.YtakibiigcdgohaaGreatDoorA09
import Derived.Test.YtakibiigcdgohaaGreatDoorA10
import Derived.Test.YtakibiigcdgohaaGreatDoorA11
import Derived.Test.YtakibiigcdgohaaGreatDoorA12
import Derived.Test.YtakibiigcdgohaaGreatDoorA13
import Derived.Test.YtakibiigcdgohaaGreatDoorA14
import Derived.Test.YtakibiigcdgohaaGreatDoorA15
import Derived.Test.YtakibiigcdgohaaGreatDoorA16
import Derived.Test.YtakibiigcdgohaaGreatDoorA17
import Derived.Test.YtakibiigcdgohaaGreatDoorA18
import Derived.Test.YtakibiigcdgohaaGreatDoorA19
import Derived.Test.YtakibiigcdgohaaGreatDoorA20
import Derived.Test.YtakibiigcdgohaaGreatDoorA21
import Derived.Test.YtakibiigcdgohaaGreatDoorA22
import Derived.Test.YtakibiigcdgohaaGreatDoorA23
import Derived.Test.YtakibiigcdgohaaGreatDoorA24
import Derived.Test.YtakibiigcdgohaaGreatDoorA25
namespace Go.Proofs.YtakibiigcdgohaaGreatDoor.keyboxNil
open Go.ChangeShapes Go.WideShapes Go.ChangeAt Go.RowKit Go.Proofs.YtakibiigcdgohaaGreatDoor.vb Go.Proofs.YtakibiigcdgohaaGreatDoor.ck Go.Proofs.YtakibiigcdgohaaGreatDoor.pa Go.Proofs.YtakibiigcdgohaaGreatDoor.he Go.Proofs.YtakibiigcdgohaaGreatDoor.fa
set_option maxRecDepth 20000
set_option maxHeartbeats 4000000 in
theorem walk_len (v : Value) (xs : List Int) (gen : Int) (w : World) (hb : Byt w v xs) (hT : Tab w) (hl : xs.length ≠ 624) :
    Calls Tryz.prog 6 #[v, .int .u64 gen] w fun x w' => x = .returned (.bool true) ∧ Below w.heap.size w w' := by
  have SN : Hid (∀ w0, Calls Tryz.prog 9 #[.agg #[.int .i64 7, .int .i64 10, .int .i64 64, .int .i64 0, .int .i64 1, .int .i64 1], .slice none 0 0] w0 fun e w' => ∃ H M, e = .returned (.tuple #[.pointer (some ⟨H.c, 0, none⟩), .int .i64 0]) ∧ Cs H M w' (na.new (H.S + 88)) [] ∧ (∀ k, M k = true → w0.heap.size ≤ k) ∧ Below w0.heap.size w0 w' ∧ nc H.S ≤ H.P ∧ nc H.S = 10 ∧ (∀ j, H.pl j = none) ∧ H.g = [7, 10, 64, 0, 1, 1] ∧ H.S = 64) := fun w0 => new_awake w0
  have HT : Hid (Tab w) := hT
  obtain ⟨ao, cap, rfl⟩ := he.byt_form hb rfl
  have HY : Hid (Byt w (.slice ao xs.length cap) xs) := hb
  have HL : Hid (xs.length ≠ 624) := hl
  have n1 : ((xs.length : Int) != 624) = true := bne_iff_ne.2 (by omega)
  have HO : Hid (∀ T, na.ops (b0 T).s = 0) := fun _ => rfl
  clear hb hl hT
  have t1 : (1 : Nat) = 1 := rfl
  go_enter Tryz.func6, Tryz.ntmps6
  go_wp2_with (first
    | (have qE := tE; go_at_call 8; refine (awake_any _ (tab_up HT.out BB.out (Nat.le_refl _))).mono ?_; rintro e9 w9 ⟨rfl, B9⟩; have BB : Hid (Below w.heap.size w w9) := BB.out.trans (B9.mono BB.out.size); clear B9 tE; have tZ : (0 : Nat) = 0 := rfl)
    | (have qD := tD; go_at_call 23; refine (ops_cs HB.out.1).mono ?_; rintro e9 w9 ⟨rfl, hw⟩; obtain rfl := hw.symm; rw [HO.out]; clear tD; have tE : (4 : Nat) = 4 := rfl)
    | (have qC := tC; go_at_call 18; refine (commit_len HB.out rfl _ xs (HY.out.below BB.out) HL.out gen).mono ?_; rintro e9 w3 ⟨rfl, B9⟩; have HB : Hid (Bs H M w3 B (b0 (H.S + 88)) []) := HB.out.below B9; have BB : Hid (Below w.heap.size w w3) := BB.out.trans (B9.mono BB.out.size); clear B9 tC; have tD : (3 : Nat) = 3 := rfl)
    | (have qB := tB; go_at_call 10; refine (open_new HC.out (tab_up HT.out BB.out (Nat.le_refl _)) HNP.out.1).mono ?_; rintro e9 w2 ⟨B, zo, zc, rfl, b9, lb9, B9⟩; have HB : Hid (Bs H M w2 B (b0 (H.S + 88)) []) := b9; have HLB : Hid (w.heap.size ≤ B) := Nat.le_trans BB.out.size lb9; have BB : Hid (Below w.heap.size w w2) := BB.out.trans (B9.mono BB.out.size); clear b9 lb9 B9 tB; have tC : (2 : Nat) = 2 := rfl)
    | (have qA := tA; go_at_call 9; refine (SN.out _).mono ?_; rintro e9 w1 ⟨H, M, rfl, c9, m9, B9, p9, n9, l9, g9, s9⟩; have HC : Hid (Cs H M w1 (na.new (H.S + 88)) []) := c9; have HM : Hid (∀ k, M k = true → w.heap.size ≤ k) := m9; have HNP : Hid (nc H.S ≤ H.P ∧ 1 ≤ nc H.S) := ⟨p9, by omega⟩; have HTEN : Hid (nc H.S = 10 ∧ H.g = [7, 10, 64, 0, 1, 1] ∧ H.S = 64) := ⟨n9, g9, s9⟩; have HPL : Hid (∀ j, H.pl j = none) := l9; have BB : Hid (Below w.heap.size w w1) := B9; clear c9 m9 B9 p9 n9 l9 g9 s9 tA; have tB : (1 : Nat) = 1 := rfl)
    | (have q6 := t6; go_at_call 10; refine (open_no (.pointer none) (na.on_nil w)).mono ?_; rintro e9 w9 ⟨rfl, hw⟩; obtain rfl := hw.symm; clear t6; have tA : (0 : Nat) = 0 := rfl)
    | (have q5 := t5; go_at_call 29; refine (bad_nil 0 w).mono ?_; rintro e9 w9 ⟨rfl, hw⟩; obtain rfl := hw.symm; clear t5; have t6 : (0 : Nat) = 0 := rfl)
    | (have q4 := t4; go_at_call 25; refine (leaks_nil w).mono ?_; rintro e9 w9 ⟨rfl, hw⟩; obtain rfl := hw.symm; clear t4; have t5 : (0 : Nat) = 0 := rfl)
    | (have q3 := t3; go_at_call 28; refine (gen_nil w).mono ?_; rintro e9 w9 ⟨rfl, hw⟩; obtain rfl := hw.symm; clear t3; have t4 : (0 : Nat) = 0 := rfl)
    | (have q2 := t2; go_at_call 26; refine (current_nil w).mono ?_; rintro e9 w9 ⟨rfl, hw⟩; obtain rfl := hw.symm; clear t2; have t3 : (0 : Nat) = 0 := rfl)
    | (have q1 := t1; go_at_call 18; refine (commit_nil _ _ w).mono ?_; rintro e9 w9 ⟨rfl, hw⟩; obtain rfl := hw.symm; clear t1; have t2 : (0 : Nat) = 0 := rfl))
  go_ret
  exact ⟨rfl, BB.out⟩
set_option maxHeartbeats 4000000 in
theorem walk_yes (v : Value) (xs : List Int) (gen : Int) (w : World) (hb : Byt w v xs) (hg : 0 ≤ gen ∧ gen ≤ 18446744073709551615) (hT : Tab w) (hl : xs.length = 624) :
    Calls Tryz.prog 6 #[v, .int .u64 gen] w fun x w' => x = .returned (.bool true) ∧ Below w.heap.size w w' := by
  have SN : Hid (∀ w0, Calls Tryz.prog 9 #[.agg #[.int .i64 7, .int .i64 10, .int .i64 64, .int .i64 0, .int .i64 1, .int .i64 1], .slice none 0 0] w0 fun e w' => ∃ H M, e = .returned (.tuple #[.pointer (some ⟨H.c, 0, none⟩), .int .i64 0]) ∧ Cs H M w' (na.new (H.S + 88)) [] ∧ (∀ k, M k = true → w0.heap.size ≤ k) ∧ Below w0.heap.size w0 w' ∧ nc H.S ≤ H.P ∧ nc H.S = 10 ∧ (∀ j, H.pl j = none) ∧ H.g = [7, 10, 64, 0, 1, 1] ∧ H.S = 64) := fun w0 => new_awake w0
  have SRP : Hid (∀ w0, Below w.heap.size w w0 → Calls Tryz.prog 30 #[.agg (ints .i64 [7, 10, 64, 0, 1, 1]), v, .int .u64 gen] w0 fun x w' => ∃ ro rc, x = .returned (.slice ro 10 rc) ∧ Below w0.heap.size w0 w') := fun w0 b0 => by
    have hr : ge.Rt [7, 10, ((64 : Nat) : Int), 0, 1, 1] := ⟨⟨by decide, by decide, by decide, by decide, by decide, by decide⟩, by decide, by decide, by decide⟩
    refine (rpages_any 7 10 0 1 1 64 v xs gen w0 hr (hb.below b0) hl hg).mono ?_
    rintro x w' ⟨r, h1, ⟨vs, ⟨ao, cap, e, -⟩, h2, -⟩, h3⟩
    rw [h2, fl_len] at e
    exact ⟨ao, cap, by rw [h1, e]; rfl, h3⟩
  have HT : Hid (Tab w) := hT
  obtain ⟨ao, cap, rfl⟩ := he.byt_form hb hl
  have HY : Hid (Byt w (.slice ao 624 cap) xs) := hb
  have HL : Hid (xs.length = 624) := hl
  have HG : Hid (0 ≤ gen ∧ gen ≤ 18446744073709551615) := hg
  clear hb hl hT hg
  have t1 : (1 : Nat) = 1 := rfl
  go_enter Tryz.func6, Tryz.ntmps6
  go_wp2_with (first
    | (have qG := tG; go_at_call 8; refine (awake_any _ (tab_up HT.out BB.out (Nat.le_refl _))).mono ?_; rintro e9 w9 ⟨rfl, B9⟩; have BB : Hid (Below w.heap.size w w9) := BB.out.trans (B9.mono BB.out.size); clear B9 tG; have tZ : (0 : Nat) = 0 := rfl)
    | (have qF := tF; go_at_call 23; refine (ops_cs HB.out.1).mono ?_; rintro e9 w9 ⟨rfl, hw⟩; obtain rfl := hw.symm; rw [HO.out]; clear tF; have tG : (4 : Nat) = 4 := rfl)
    | (have qE := tE; go_at_call 30; refine (SRP.out w4 BB.out).mono ?_; rintro e9 w5 ⟨ro, rc, rfl, B9⟩; have HB : Hid (Bs H M4 w5 B b1 l4) := HB.out.below B9; have BB : Hid (Below w.heap.size w w5) := BB.out.trans (B9.mono BB.out.size); clear B9 tE; have tF : (3 : Nat) = 3 := rfl)
    | (have qD := tD; go_at_call 31; refine (geo_cs HB.out.1).mono ?_; rintro e9 w4 ⟨rfl, B9⟩; rw [HTEN.out.2.1]; have HB : Hid (Bs H M4 w4 B b1 l4) := HB.out.below B9; have BB : Hid (Below w.heap.size w w4) := BB.out.trans (B9.mono BB.out.size); clear B9 tD; have tE : (3 : Nat) = 3 := rfl)
    | (have qC := tC; go_at_call 18; refine (commit_first HB.out HNP.out.1 (fun j _ => HPL.out j) _ xs (HY.out.below BB.out) HL.out gen HG.out (tab_up HT.out BB.out (Nat.le_refl _))).mono ?_; rintro e9 w3 ⟨M4, l4, b1, rfl, b9, f9, -, -, -, o9, -, -⟩; have HB : Hid (Bs H M4 w3 B b1 l4) := b9; have HO : Hid (na.ops b1.s = 15) := (by have := HTEN.out.1; show _ = _; omega); have BB : Hid (Below w.heap.size w w3) := BB.out.trans (f9.below BB.out.size HM.out HLB.out); clear b9 f9 o9 tC; have tD : (3 : Nat) = 3 := rfl)
    | (have qB := tB; go_at_call 10; refine (open_new HC.out (tab_up HT.out BB.out (Nat.le_refl _)) HNP.out.1).mono ?_; rintro e9 w2 ⟨B, zo, zc, rfl, b9, lb9, B9⟩; have HB : Hid (Bs H M w2 B (b0 (H.S + 88)) []) := b9; have HLB : Hid (w.heap.size ≤ B) := Nat.le_trans BB.out.size lb9; have BB : Hid (Below w.heap.size w w2) := BB.out.trans (B9.mono BB.out.size); clear b9 lb9 B9 tB; have tC : (2 : Nat) = 2 := rfl)
    | (have qA := tA; go_at_call 9; refine (SN.out _).mono ?_; rintro e9 w1 ⟨H, M, rfl, c9, m9, B9, p9, n9, l9, g9, s9⟩; have HC : Hid (Cs H M w1 (na.new (H.S + 88)) []) := c9; have HM : Hid (∀ k, M k = true → w.heap.size ≤ k) := m9; have HNP : Hid (nc H.S ≤ H.P ∧ 1 ≤ nc H.S) := ⟨p9, by omega⟩; have HTEN : Hid (nc H.S = 10 ∧ H.g = [7, 10, 64, 0, 1, 1] ∧ H.S = 64) := ⟨n9, g9, s9⟩; have HPL : Hid (∀ j, H.pl j = none) := l9; have BB : Hid (Below w.heap.size w w1) := B9; clear c9 m9 B9 p9 n9 l9 g9 s9 tA; have tB : (1 : Nat) = 1 := rfl)
    | (have q6 := t6; go_at_call 10; refine (open_no (.pointer none) (na.on_nil w)).mono ?_; rintro e9 w9 ⟨rfl, hw⟩; obtain rfl := hw.symm; clear t6; have tA : (0 : Nat) = 0 := rfl)
    | (have q5 := t5; go_at_call 29; refine (bad_nil 0 w).mono ?_; rintro e9 w9 ⟨rfl, hw⟩; obtain rfl := hw.symm; clear t5; have t6 : (0 : Nat) = 0 := rfl)
    | (have q4 := t4; go_at_call 25; refine (leaks_nil w).mono ?_; rintro e9 w9 ⟨rfl, hw⟩; obtain rfl := hw.symm; clear t4; have t5 : (0 : Nat) = 0 := rfl)
    | (have q3 := t3; go_at_call 28; refine (gen_nil w).mono ?_; rintro e9 w9 ⟨rfl, hw⟩; obtain rfl := hw.symm; clear t3; have t4 : (0 : Nat) = 0 := rfl)
    | (have q2 := t2; go_at_call 26; refine (current_nil w).mono ?_; rintro e9 w9 ⟨rfl, hw⟩; obtain rfl := hw.symm; clear t2; have t3 : (0 : Nat) = 0 := rfl)
    | (have q1 := t1; go_at_call 18; refine (commit_nil _ _ w).mono ?_; rintro e9 w9 ⟨rfl, hw⟩; obtain rfl := hw.symm; clear t1; have t2 : (0 : Nat) = 0 := rfl))
  go_ret
  exact ⟨rfl, BB.out⟩
theorem walk (v : Value) (xs : List Int) (gen : Int) (w : World) (hb : Byt w v xs) (hg : 0 ≤ gen ∧ gen ≤ 18446744073709551615) (hT : Tab w) :
    Calls Tryz.prog 6 #[v, .int .u64 gen] w fun x w' => x = .returned (.bool true) ∧ Below w.heap.size w w' := by
  by_cases hl : xs.length = 624
  · exact walk_yes v xs gen w hb hg hT hl
  · exact walk_len v xs gen w hb hT hl
theorem params : ∀ t ∈ Tryz.f6.params.toList, Tryz.prog.readableRec t = true ∧ t < Tryz.prog.types.size := by
  rw [Tryz.params6]
  intro t ht
  simp at ht
  rcases ht with rfl | rfl
  · exact ⟨by kernel_rfl, of_decide_eq_true (by kernel_rfl)⟩
  · exact ⟨by kernel_rfl, of_decide_eq_true (by kernel_rfl)⟩
theorem contract (H : Type) (enc : TypeId × Value → H) (W : World) (base : Nat) (args : Array Value) (ds gs : List (DataW H)) (before : List MemPlace)
    (hval : ∀ (j : Nat) t v, Tryz.f6.params[j]? = some t → args[j]? = some v → Value.okWide Tryz.prog W .any base t v)
    (hW : DataW.Whole enc Tryz.prog Tryz.f6.params.toList Rows.keyboxNilSpec.vars false W args.toList ds gs before) (hL : laidMetH Tryz.prog Rows.keyboxNilRow.laid W) :
    Calls Tryz.prog 6 args W fun e W' => ∃ v, e = .returned v ∧ Rows.keyboxNilSpec.post enc Tryz.prog Tryz.f6 false true false false W args v W' := by
  have hW' := hW
  obtain ⟨p, q, hA0, hV, rfl, hfz, hnd⟩ := hW
  have hA : DataW.TrodAll enc Tryz.prog W 0 (fun _ => true) true Tryz.f6.params.toList args.toList ds p := hA0
  rw [Tryz.params6] at hA hval
  obtain ⟨v0, v1, d0, d1, p0, p1, rfl, rfl, rfl, h0, h1⟩ := trodAll_two hA
  obtain ⟨rfl, rfl⟩ := trodVars_none hV
  obtain ⟨xs0, b0⟩ := byt_open (hval 0 35 v0 rfl rfl) h0
  obtain ⟨x1, rfl, rfl, rfl, w1⟩ := open_int Tryz.underlying41 (hval 1 41 v1 rfl rfl) h1
  clear hA0
  refine (walk v0 xs0 x1 W b0 (bounds_u64 w1) (table hL)).mono fun e W' ⟨he, hg⟩ => ?_
  subst he
  exact ⟨_, rfl, post_law rfl (by kernel_rfl) params rfl rfl rfl hW' hg⟩
theorem laid_met (os : Os) : laidMet Tryz.prog Rows.keyboxNilRow.laid (({ World.holding Tryz.prog os ⟨#[], #[], []⟩ with heap := (World.holding Tryz.prog os ⟨#[], #[], []⟩).heap.modify 1 fun | .cells _ t frozen => .cells #[.int .i64 1, .int .i64 1, .int .i64 1, .int .i64 1, .int .i64 4, .int .i64 8, .int .i64 8] t frozen | o => o } : World).forCall (fun _ _ => 0) ⟨#[], #[.slice none 0 0, .int .u64 0], []⟩).memory :=
  laidMet_of_run' 8 (by kernel_rfl) (by kernel_rfl)
theorem reads (os : Os) {H : Type} (enc : TypeId × Value → H) : ∃ places, DataW.whole enc Tryz.prog (({ World.holding Tryz.prog os ⟨#[], #[], []⟩ with heap := (World.holding Tryz.prog os ⟨#[], #[], []⟩).heap.modify 1 fun | .cells _ t frozen => .cells #[.int .i64 1, .int .i64 1, .int .i64 1, .int .i64 1, .int .i64 4, .int .i64 8, .int .i64 8] t frozen | o => o } : World).forCall (fun _ _ => 0) ⟨#[], #[.slice none 0 0, .int .u64 0], []⟩).memory Tryz.f6.params.toList Rows.keyboxNilSpec.vars false #[Value.slice none 0 0, Value.int .u64 0].toList 8 = some ([.nil, .lit (.int .u64 0)], [], places) :=
  ⟨[], by kernel_rfl⟩
set_option maxRecDepth 100000 in
theorem lifted (os : Os) (started : os.Started) (H : Type) (enc : TypeId × Value → H) (F : Stop.Interp) :
    ReturnsInHanded {} Tryz.checked os 6 .any ((OpenSpec.ofChange Rows.keyboxNilSpec).preRow enc Tryz.prog Tryz.f6 Rows.keyboxNilRow.domain false Rows.keyboxNilRow.laid) (((OpenSpec.ofChange Rows.keyboxNilSpec).at F).post enc Tryz.prog Tryz.f6 false true false false) := by
  obtain ⟨places, hx⟩ := reads os enc
  refine returnsInHanded_of_row (C := Tryz.checked) (s := OpenSpec.ofChange Rows.keyboxNilSpec) own started (by kernel_rfl) Tryz.func6
    (witness_row_at (enc := enc) (C := Tryz.checked) false ({ World.holding Tryz.prog os ⟨#[], #[], []⟩ with heap := (World.holding Tryz.prog os ⟨#[], #[], []⟩).heap.modify 1 fun | .cells _ t frozen => .cells #[.int .i64 1, .int .i64 1, .int .i64 1, .int .i64 1, .int .i64 4, .int .i64 8, .int .i64 8] t frozen | o => o } : World) #[.slice none 0 0, .int .u64 0] rfl (by kernel_rfl) (by kernel_rfl) (by kernel_rfl)
      (OpenSpec.preRow_of_cond 8 hx (by kernel_rfl) (fun k hk => by cases hk) (by kernel_rfl) (laid_met os))) ?_
  intro W base args ds gs before hval hW _ _ _ hL _ _
  exact contract H enc W base args ds gs before hval hW hL
theorem said : Rows.KeyboxNilSaid :=
  OpenClaim.holds_of_cond 6 Tryz.f6 rfl rfl rfl rfl rfl rfl rfl ⟨rfl, rfl, rfl, rfl, rfl⟩ rfl rfl rfl rfl rfl (by kernel_rfl) Tryz.func6 (by kernel_rfl)
    (of_decide_eq_true (by kernel_rfl)) (by unfold Func.isWrapper; first | (rw [if_pos (by decide +kernel)]; kernel_rfl) | (rw [if_neg (by decide +kernel)]; exact ⟨rfl, rfl⟩))
    (fun os started H enc _ F => by rw [OpenClaim.pre_eq_preRow]; exact lifted os started H enc F)
theorem plain (f : FuncId) (fn : Func) (hf : Tryz.pinned.checked.prog.funcNamed "nepenthe/nepenthelaw20.KeyboxNil" = some f) (hfn : Tryz.pinned.checked.prog.funcs[f]? = some fn) :
    false = Tryz.pinned.checked.prog.looks [] ∧ ∀ (j : Nat) t, fn.params[j]? = some t → Tryz.pinned.checked.prog.wantsStandIn t = false := by
  obtain rfl : f = 6 := Option.some.inj ((show Tryz.prog.funcNamed "nepenthe/nepenthelaw20.KeyboxNil" = some 6 by kernel_rfl).symm.trans hf) |>.symm
  obtain rfl : fn = Tryz.f6 := (Option.some.inj (Tryz.func6.symm.trans hfn)).symm
  refine ⟨by kernel_rfl, fun j t ht => ?_⟩
  rw [Tryz.params6] at ht
  have hm := Array.mem_of_getElem? ht
  simp at hm
  rcases hm with rfl | rfl
  · exact (show Tryz.prog.wantsStandIn 35 = false by kernel_rfl)
  · exact (show Tryz.prog.wantsStandIn 41 = false by kernel_rfl)
end Go.Proofs.YtakibiigcdgohaaGreatDoor.keyboxNil
namespace Go.Proofs.YtakibiigcdgohaaGreatDoor
theorem keyboxNil_card : Rows.KeyboxNilCardSaid :=
  Claim7.holds_tied_plain_at .later [] _ _ _ _ keyboxNil.said (fun _ h => by cases h) (by kernel_rfl) (fun _ h => by cases h) keyboxNil_row_tie rfl ⟨rfl, rfl⟩ (by kernel_rfl) rfl keyboxNil.plain (by kernel_rfl)
end Go.Proofs.YtakibiigcdgohaaGreatDoor
