/- Parts of the proof: what KeyboxNil reaches. No claim of its own. -/
import Derived.Deep.WholeRow
import Derived.Deep.MidRow
import Derived.Laws.StructEq
import Derived.Deep.RegionHeld3
import Derived.Deep.DeepCutAuto
import Derived.Lib.SliceRun
import Derived.Laws.AppendOwnNone
import Derived.Deep.Slices
import Derived.WalkKit
import Derived.WalkSmall
import Derived.ProofKit
import Derived.OpenShut
import Derived.BigQuiet
import Derived.Deep.QuietTactic
import Derived.Deep.DeepHandedRow
import Derived.Lib.LaidTab
import Derived.Deep.Matrix
import Derived.ArgAppend
import Derived.Lib.AppendZeros
import Derived.Deep.LoopGhost
import Derived.Lib.MakeNoZero
import Derived.Test.YtakibiigcdgohaaGreatDoorA00
import Derived.Test.YtakibiigcdgohaaGreatDoorA01
import Derived.Test.YtakibiigcdgohaaGreatDoorA02
import Derived.Test.YtakibiigcdgohaaGreatDoorA03
import Derived.Test.YtakibiigcdgohaaGreatDoorA04
import Derived.Test.YtakibiigcdgohaaGreatDoorA05
import Derived.Test.YtakibiigcdgohaaGreatDoorA06
import Derived.Test.YtakibiigcdgohaaGreatDoorA07
import Derived.Test.YtakibiigcdgohaaGreatDoorA08
import Derived.Test.YtakibiigcdgohaaGreatDoorA09
import Derived.Test.YtakibiigcdgohaaGreatDoorA10
import Derived.Test.YtakibiigcdgohaaGreatDoorA11
import Derived.Test.YtakibiigcdgohaaGreatDoorA12
import Derived.Test.YtakibiigcdgohaaGreatDoorA13
import Derived.Test.YtakibiigcdgohaaGreatDoorA14
import Derived.Test.YtakibiigcdgohaaGreatDoorA15
import Derived.Test.YtakibiigcdgohaaGreatDoorA16
import Derived.Test.YtakibiigcdgohaaGreatDoorA17
import Derived.Test.YtakibiigcdgohaaGreatDoorA18
import Derived.Test.YtakibiigcdgohaaGreatDoorA19
import Derived.Test.YtakibiigcdgohaaGreatDoorA20
import Derived.Test.YtakibiigcdgohaaGreatDoorA21
import Derived.Test.YtakibiigcdgohaaGreatDoorA22
import Derived.Test.YtakibiigcdgohaaGreatDoorA23
import Derived.Test.YtakibiigcdgohaaGreatDoorA24
namespace Go.Proofs.YtakibiigcdgohaaGreatDoor.na
open Go.RowKit Go.Proofs.YtakibiigcdgohaaGreatDoor.fa
set_option maxRecDepth 20000
theorem raw_newV (N P S : Nat) : raw N P (new S) [] = raw0 N P S := by
  have h1 : ∀ n, jnd n (fun _ => List.replicate S (255 : Int)) = List.replicate (n * S) 255 := fun n => by
    induction n with
    | zero => simp [jnd]
    | succ n ih => rw [jnd_succ, ih, Nat.succ_mul, ← List.replicate_append_replicate]
  have h2 : ∀ n, ((List.range n).flatMap fun _ => List.replicate (P * S) (255 : Int)) = List.replicate (n * (P * S)) 255 := fun n => by
    induction n with
    | zero => simp
    | succ n ih => rw [List.range_succ, List.flatMap_append, ih, Nat.succ_mul, ← List.replicate_append_replicate]; simp
  have h3 : img N P (new S) = List.replicate (N * (P * S)) 255 := by
    show ((List.range N).flatMap fun _ => jnd P (fun _ => List.replicate S (255 : Int))) = _
    rw [h1 P, h2 N]
  have h4 : (List.range P).map (fun _ => (0 : Int)) = List.replicate P 0 := by
    rw [List.map_const']
    simp
  unfold raw raw0
  rw [h3]
  show mkX _ (fun b => (List.range P).map (fun _ => (0 : Int))) _ _ _ _ = _
  rw [h4]
  rfl
end Go.Proofs.YtakibiigcdgohaaGreatDoor.na
namespace Go.Proofs.YtakibiigcdgohaaGreatDoor.vb
open Go.RowKit Go.Proofs.YtakibiigcdgohaaGreatDoor.fa Go.Proofs.YtakibiigcdgohaaGreatDoor.he Go.Proofs.YtakibiigcdgohaaGreatDoor.pa Go.Proofs.YtakibiigcdgohaaGreatDoor.ck
def rb (sd : Int) (k : Nat) : Int := bits BinOp.xor IntKind.u8 ((k : Int) % 256 * 7 % 256) sd
def rcd (sd : Int) (n : Nat) : List Int := (List.range n).map (rb sd)
theorem rcd_len (sd : Int) (n : Nat) : (rcd sd n).length = n := by simp [rcd]
theorem rcd_succ (sd : Int) (n : Nat) : rcd sd (n + 1) = rcd sd n ++ [rb sd n] := by simp [rcd, List.range_succ]
theorem rb_byte {sd : Int} (hs : 0 ≤ sd ∧ sd ≤ 255) (k : Nat) : 0 ≤ rb sd k ∧ rb sd k ≤ 255 := by
  unfold rb
  rw [xr_of _ _ (by omega) hs]
  exact xr_bd _ _ (by omega) hs
theorem rcd_all {sd : Int} (hs : 0 ≤ sd ∧ sd ≤ 255) (n : Nat) : AllB (rcd sd n) := allB_mem fun x hx => by
  obtain ⟨k, -, rfl⟩ := List.mem_map.1 hx
  exact rb_byte hs k
set_option maxHeartbeats 4000000 in
theorem record_own (sd : Int) (w : World) :
    Calls Tryz.prog 17 #[.int .u8 sd] w fun e w' => ∃ v, e = .returned v ∧ Own w.heap.size w' v (rcd sd 624) ∧ Below w.heap.size w w' := by
  go_enter Tryz.func17, Tryz.ntmps17
  go_wp2
  go_loopw [3, 4] (fun v i wr => ∃ (k : Nat) (v0 : Value), k ≤ 624 ∧ i = .int .i64 (k : Int) ∧ v = v0 ∧ Hid (Own w.heap.size wr v0 (rcd sd k)) ∧ Hid (Below w.heap.size w wr)) (fun _ i _ => 624 - (intOf i).toNat)
  case atStart => exact ⟨0, _, by omega, rfl, rfl, Own.empty w (Nat.le_refl _), (Below.refl _ _).alloc (Nat.le_refl _) _⟩
  case round =>
    obtain ⟨k, _, hk, rfl, rfl, HO, HB⟩ := hrel
    by_cases hlt : k < 624
    · have lk1 : (k : Int) < 624 := by omega
      have lk2 : IntKind.i64.wrap ((k : Int) + 1) = (k : Int) + 1 := by rw [IntKind.wrap_i64]; omega
      have HK : Hid (k < 624) := hlt
      have t0 : (0 : Nat) = 0 := rfl
      go_wp2_with (first
        | (have q0 := t0; at_builtin; refine push_law wr rfl (.tmp 10) (.tmp 16) rfl w.heap.size HB.out.size u3 (rcd sd k) (rb sd k) rfl rfl HO.out (by rw [rcd_len]; have := HK.out; omega) ?_; intro v1 w1 o9 b9; have HO1 : Hid (Own w.heap.size w1 v1 (rcd sd (k + 1))) := (by show Own _ _ _ _; rw [rcd_succ]; exact o9); have HB1 : Hid (Below w.heap.size w w1) := HB.out.trans b9; clear o9 b9 t0; have t1 : (1 : Nat) = 1 := rfl))
      go_roundw
      case rel => exact ⟨k + 1, v1, by omega, by go_num, rfl, HO1, HB1⟩
      case measure => simp [intOf]; omega
    · have ek : k = 624 := by omega
      subst ek
      go_wp2
      go_ret
      exact ⟨_, rfl, HO.out, HB.out⟩
theorem record_any (sd : Int) (hs : 0 ≤ sd ∧ sd ≤ 255) (w : World) :
    Calls Tryz.prog 17 #[.int .u8 sd] w fun e w' => ∃ v, e = .returned v ∧ Byt w' v (rcd sd 624) ∧ Below w.heap.size w w' :=
  (record_own sd w).mono fun _ _ ⟨v, h1, h2, h3⟩ => ⟨v, h1, h2.byt (rcd_all hs _), h3⟩
theorem new_cs (N P S : Nat) (g3 g4 g5 : Int) (hs : na.Shp [(N : Int), (P : Int), (S : Int), g3, g4, g5] N P (S + 88)) (v : Value) (fs : List (Int × Bool × Value)) (ms : Nat → List Int) (w : World) (h : Fls w v fs) (hm : Mks w fs ms) (hl : fs.length ≤ 64) (hk : Okp fs ms fs.length) :
    Calls Tryz.prog 9 #[.agg (ints .i64 [(N : Int), (P : Int), (S : Int), g3, g4, g5]), v] w fun e w' => ∃ H M, e = .returned (.tuple #[.pointer (some ⟨H.c, 0, none⟩), .int .i64 0]) ∧ Cs H M w' (na.new (S + 88)) [] ∧ (∀ k, M k = true → w.heap.size ≤ k) ∧ Below w.heap.size w w' ∧ H.N = N ∧ H.P = P ∧ H.S = S ∧ H.g3 = g3 ∧ H.g4 = g4 ∧ H.g5 = g5 ∧ H.pl = na.plnOf fs ms := by
  refine (na.new_yes (S : Int) g3 g4 g5 N P (S + 88) hs v fs ms w h hm hl hk).mono ?_
  rintro e w' ⟨M, c, r, d, q, pv, tv, h1, h2, h3, h4, h5⟩
  refine ⟨⟨c, r, d, q, pv, N, P, S, g3, g4, g5, na.plnOf fs ms⟩, M, h1, ⟨⟨tv, ?_⟩, h3, na.new_wf N P (S + 88), na.lsp_new N P (S + 88), rfl, fun _ z => absurd z List.not_mem_nil⟩, h4, h5, rfl, rfl, rfl, rfl, rfl, rfl, rfl⟩
  rw [na.raw_newV]
  exact h2
theorem new_kc {S P : Nat} {at' gen : Int} {rec : List Int} (h1 : 1 ≤ nc S) (hP : nc S ≤ P) (h : Kc S ((List.range 4).map (bpg P (na.new (S + 88)))) 4 at' gen rec) : at' = -1 ∧ gen = 0 ∧ rec = [] := by
  rcases h with ⟨a1, a2, a3, -⟩ | ⟨i, hi, -, hk, -⟩
  · exact ⟨a1, a2, a3⟩
  · exfalso
    have e : ((List.range 4).map (bpg P (na.new (S + 88)))).getD i [] = bpg P (na.new (S + 88)) i := by simp [List.getD, hi]
    rw [e] at hk
    have z := (hd_bpg (k := i) h1 hP).2.2.2 hk
    exact blank_open S z.2
end Go.Proofs.YtakibiigcdgohaaGreatDoor.vb
namespace Go.Proofs.YtakibiigcdgohaaGreatDoor.vb
open Go.RowKit Go.Proofs.YtakibiigcdgohaaGreatDoor.fa Go.Proofs.YtakibiigcdgohaaGreatDoor.he Go.Proofs.YtakibiigcdgohaaGreatDoor.pa Go.Proofs.YtakibiigcdgohaaGreatDoor.ck
set_option maxRecDepth 20000
theorem kc_unique {S k : Nat} {bs : List (List (List Int))} {a g a' g' : Int} {r r' : List Int} (h : Kc S bs k a g r) (h' : Kc S bs k a' g' r') : a = a' ∧ g = g' ∧ r = r' := by
  rcases h with ⟨x1, x2, x3, x4⟩ | ⟨i, i1, i2, i3, i4, i5, i6, i7⟩
  · rcases h' with ⟨y1, y2, y3, -⟩ | ⟨j, j1, -, j3, -⟩
    · exact ⟨x1.trans y1.symm, x2.trans y2.symm, x3.trans y3.symm⟩
    · exact absurd j3 (x4 j j1)
  · rcases h' with ⟨-, -, -, y4⟩ | ⟨j, j1, j2, j3, j4, j5, j6, j7⟩
    · exact absurd i3 (y4 i i1)
    · have e : i = j := by
        rcases Nat.lt_trichotomy i j with q | q | q
        · have z1 := j7 i q i3
          have z2 := i6 j j1 j3
          omega
        · exact q
        · have z1 := i7 j q j3
          have z2 := j6 i i1 i3
          omega
      subst e
      exact ⟨i2.trans j2.symm, i4.trans j4.symm, i5.trans j5.symm⟩
section
variable {H : Ch} {M : Nat → Bool} {w : World} {B : Nat} {l : List na.Opn} {s : na.St}
theorem commit_first (h : Bs H M w B (b0 (H.S + 88)) l) (hP : nc H.S ≤ H.P) (hp : ∀ j, j < nc H.S + 5 → H.pl j = none) (v : Value) (xs : List Int) (hy : Byt w v xs) (hl : xs.length = 624) (gen : Int) (hg : 0 ≤ gen ∧ gen ≤ 18446744073709551615) (hT : Tab w) :
    Calls Tryz.prog 18 #[.pointer (some ⟨B, 0, none⟩), v, .int .u64 gen] w fun e w' => ∃ M' l' b1, e = .returned (.int .i64 0) ∧ Bs H M' w' B b1 l' ∧ Fr M w B M' w' ∧ Inv H.S H.N H.P b1 xs ∧ b1.gen = gen ∧ b1.cur = 0 ∧ na.ops b1.s = nc H.S + 5 ∧ b1.hf = false ∧ na.off b1.s = false := by
  have s12 := rt_sec h.1.rt
  have hN := h.num
  obtain ⟨c1, c2, c3, c4, c5, c6, c7⟩ := cmt_first (N := H.N) (P := H.P) (pl := H.pl) s12.1 s12.2 hP (by omega) hl hy.all hg hp
  refine (commit_any h ⟨0, by omega, rfl⟩ v xs hy hl gen hg hT (show (0 : Nat) ≤ 900000 by omega)).mono ?_
  rintro e w' ⟨M', l', h1, h2, h3⟩
  exact ⟨M', l', _, h1.trans (congrArg (fun z => Ending.returned (.int .i64 z)) c1), h2, h3, c2, c3, c7, c4, c5, c6⟩
theorem open_found (h : Cs H M w s l) (ho : na.off s = false) (hT : Tab w) (hP : nc H.S ≤ H.P) (rec : List Int) (g : Int) (hF : Found H.S s rec g) :
    Calls Tryz.prog 10 #[.pointer (some ⟨H.c, 0, none⟩)] w fun e w' => ∃ B c ro rn rc, e = .returned (.tuple #[.pointer (some ⟨B, 0, none⟩), .slice ro rn rc, .int .i64 0]) ∧ Byt w' (.slice ro rn rc) rec ∧ Bs H M w' B (bx0 s c g (hfl l)) l ∧ w.heap.size ≤ B ∧ Below w.heap.size w w' := by
  have s12 := rt_sec h.rt
  obtain ⟨c, -, hk⟩ := found_kc (nc_le s12.1 s12.2).1 hP hF
  refine (open_any h ho hT).mono ?_
  rintro e w' ⟨B, a', g', r', ro, rn, rc, x, h1, h2, h3, h4, h5, h6, h7, h8⟩
  obtain ⟨rfl, rfl, rfl⟩ := kc_unique h4 hk
  rw [h6 (by omega)] at h1
  exact ⟨B, _, ro, rn, rc, h1, h3, h2, h7, h8⟩
theorem open_new (h : Cs H M w (na.new (H.S + 88)) []) (hT : Tab w) (hP : nc H.S ≤ H.P) :
    Calls Tryz.prog 10 #[.pointer (some ⟨H.c, 0, none⟩)] w fun e w' => ∃ B ro rc, e = .returned (.tuple #[.pointer (some ⟨B, 0, none⟩), .slice ro 0 rc, .int .i64 10]) ∧ Bs H M w' B (b0 (H.S + 88)) [] ∧ w.heap.size ≤ B ∧ Below w.heap.size w w' := by
  have s12 := rt_sec h.rt
  refine (open_any h rfl hT).mono ?_
  rintro e w' ⟨B, a', g', r', ro, rn, rc, x, h1, h2, h3, h4, h5, h6, h7, h8⟩
  obtain ⟨rfl, rfl, rfl⟩ := new_kc (nc_le s12.1 s12.2).1 hP h4
  obtain ⟨ao, cap, e1⟩ := byt_form h3 (n := 0) rfl
  injection e1 with e1 e2 e3
  subst e1 e2 e3
  rw [h5 rfl] at h1
  exact ⟨B, _, _, h1, h2, h7, h8⟩
end
theorem ops_cs {H : Ch} {M : Nat → Bool} {w : World} {l : List na.Opn} {s : na.St} (h : Cs H M w s l) : Calls Tryz.prog 23 #[.pointer (some ⟨H.c, 0, none⟩)] w fun e w' => e = .returned (.int .i64 (na.ops s : Int)) ∧ w' = w := by
  obtain ⟨⟨tv, z⟩, -, -, -, hl, -⟩ := h
  obtain ⟨dvs, tO, -, -⟩ := z.2.2.2.2.2.2.2.1
  obtain ⟨tq, tc, e⟩ := tO.rws.form
  rw [na.opcs_len] at e
  have := na.ops_any H.c tq _ tc w (by rw [← e]; exact z.cells.2.2.2.2)
  rw [show (na.xt (na.raw H.N H.P s l)).length = na.ops s from hl] at this
  exact this
theorem new_awake (w : World) : Calls Tryz.prog 9 #[.agg (ints .i64 [7, 10, 64, 0, 1, 1]), .slice none 0 0] w fun e w' => ∃ H M, e = .returned (.tuple #[.pointer (some ⟨H.c, 0, none⟩), .int .i64 0]) ∧ Cs H M w' (na.new (H.S + 88)) [] ∧ (∀ k, M k = true → w.heap.size ≤ k) ∧ Below w.heap.size w w' ∧ nc H.S ≤ H.P ∧ nc H.S = 10 ∧ (∀ j, H.pl j = none) ∧ H.g = [7, 10, 64, 0, 1, 1] ∧ H.S = 64 := by
  have sh : na.Shp [((7 : Nat) : Int), ((10 : Nat) : Int), ((64 : Nat) : Int), 0, 1, 1] 7 10 (64 + 88) := ⟨rfl, ⟨⟨by decide, by decide, by decide, by decide, by decide, by decide⟩, by decide, by decide, by decide⟩, rfl, rfl, rfl⟩
  refine Calls.mono (new_cs 7 10 64 0 1 1 sh (.slice none 0 0) [] (fun _ => []) w ⟨none, 0, rfl, by simp, by simp, fun _ => rfl, fun h => by simp at h⟩ (fun t ht => by simp at ht) (by simp) (fun t ht => by simp at ht)) ?_
  rintro e w' ⟨H, M, h1, h2, h3, h4, n1, n2, n3, n4, n5, n6, n7⟩
  refine ⟨H, M, h1, by rw [n3]; exact h2, h3, h4, by rw [n3, n2]; decide, by rw [n3]; decide, fun j => by rw [n7]; rfl, ?_, n3⟩
  unfold Ch.g
  rw [n1, n2, n3, n4, n5, n6]
  rfl
theorem tab_up {B0 : Nat} {w w' : World} (h : Tab w) (hb : Below B0 w w') (h0 : w.heap.size ≤ B0) : Tab w' := h.below (hb.mono h0)
set_option maxHeartbeats 4000000 in
theorem awake_any (w : World) (hT : Tab w) : Calls Tryz.prog 8 #[] w fun e w' => e = .returned (.bool true) ∧ Below w.heap.size w w' := by
  have HT : Hid (Tab w) := hT
  have SN : Hid (∀ w0, Calls Tryz.prog 9 #[.agg #[.int .i64 7, .int .i64 10, .int .i64 64, .int .i64 0, .int .i64 1, .int .i64 1], .slice none 0 0] w0 fun e w' => ∃ H M, e = .returned (.tuple #[.pointer (some ⟨H.c, 0, none⟩), .int .i64 0]) ∧ Cs H M w' (na.new (H.S + 88)) [] ∧ (∀ k, M k = true → w0.heap.size ≤ k) ∧ Below w0.heap.size w0 w' ∧ nc H.S ≤ H.P ∧ nc H.S = 10 ∧ (∀ j, H.pl j = none) ∧ H.g = [7, 10, 64, 0, 1, 1] ∧ H.S = 64) := fun w0 => new_awake w0
  have SR : Hid (∀ w0, Calls Tryz.prog 17 #[.int .u8 1] w0 fun e w' => ∃ v, e = .returned v ∧ Byt w' v (rcd 1 624) ∧ Below w0.heap.size w0 w') := fun w0 => record_any 1 (by omega) w0
  clear hT
  have t0 : (0 : Nat) = 0 := rfl
  go_enter Tryz.func8, Tryz.ntmps8
  go_wp2_with (first
    | (have q8 := t8; go_at_call 15; refine (he.same_yes _ _ _ (rcd 1 624) HY2.out HY3.out).mono ?_; rintro e9 w9 ⟨rfl, B9⟩; have BB : Hid (Below w.heap.size w w9) := BB.out.trans (B9.mono BB.out.size); clear B9 t8; have t9 : (9 : Nat) = 9 := rfl)
    | (have q7 := t7; go_at_call 17; refine (SR.out w5).mono ?_; rintro e9 w6 ⟨rv2, rfl, y9, B9⟩; have HY3 : Hid (Byt w6 rv2 (rcd 1 624)) := y9; have HY2 : Hid (Byt w6 (.slice ro rn rc) (rcd 1 624)) := HY2.out.below B9; have BB : Hid (Below w.heap.size w w6) := BB.out.trans (B9.mono BB.out.size); clear y9 B9 t7; have t8 : (8 : Nat) = 8 := rfl)
    | (have q6 := t6; go_at_call 28; refine (gen_bs HV.out).mono ?_; rintro e9 w9 ⟨rfl, hw⟩; obtain rfl := hw.symm; rw [HG.out.1]; clear t6; have t7 : (7 : Nat) = 7 := rfl)
    | (have q5 := t5; go_at_call 26; refine (current_bs HV.out).mono ?_; rintro e9 w9 ⟨rfl, hw⟩; obtain rfl := hw.symm; rw [HG.out.2]; clear t5; have t6 : (6 : Nat) = 6 := rfl)
    | (have q4 := t4; go_at_call 10; refine (open_found HB.out.1 HOF.out (tab_up HT.out BB.out (Nat.le_refl _)) HNP.out.1 (rcd 1 624) b1.gen (inv_found HNP.out.2 HNP.out.1 HI.out)).mono ?_; rintro e9 w5 ⟨B5, c5, ro, rn, rc, rfl, y9, -, -, B9⟩; have HY2 : Hid (Byt w5 (.slice ro rn rc) (rcd 1 624)) := y9; have HV : Hid (Vr w5 B (bxc H.c b1)) := (HB.out.below B9).2.2.1; have BB : Hid (Below w.heap.size w w5) := BB.out.trans (B9.mono BB.out.size); clear y9 B9 t4; have t5 : (5 : Nat) = 5 := rfl)
    | (have q3 := t3; go_at_call 18; refine (commit_first HB.out HNP.out.1 (fun j _ => HPL.out j) rv (rcd 1 624) HY.out (rcd_len _ _) 4 (by omega) (tab_up HT.out BB.out (Nat.le_refl _))).mono ?_; rintro e9 w4 ⟨M4, l4, b1, rfl, b9, f9, i9, g9, c9, -, -, o9⟩; have HB : Hid (Bs H M4 w4 B b1 l4) := b9; have HI : Hid (Inv H.S H.N H.P b1 (rcd 1 624)) := i9; have HG : Hid (b1.gen = 4 ∧ b1.cur = 0) := ⟨g9, c9⟩; have HOF : Hid (na.off b1.s = false) := o9; have BB : Hid (Below w.heap.size w w4) := BB.out.trans (f9.below BB.out.size HM.out HLB.out); clear b9 f9 i9 g9 c9 o9 t3; have t4 : (4 : Nat) = 4 := rfl)
    | (have q2 := t2; go_at_call 17; refine (SR.out w2).mono ?_; rintro e9 w3 ⟨rv, rfl, y9, B9⟩; have HY : Hid (Byt w3 rv (rcd 1 624)) := y9; have HB : Hid (Bs H M w3 B (b0 (H.S + 88)) []) := HB.out.below B9; have BB : Hid (Below w.heap.size w w3) := BB.out.trans (B9.mono BB.out.size); clear y9 B9 t2; have t3 : (3 : Nat) = 3 := rfl)
    | (have q1 := t1; go_at_call 10; refine (open_new HC.out (tab_up HT.out BB.out (Nat.le_refl _)) HNP.out.1).mono ?_; rintro e9 w2 ⟨B, zo, zc, rfl, b9, lb9, B9⟩; have HB : Hid (Bs H M w2 B (b0 (H.S + 88)) []) := b9; have HLB : Hid (w.heap.size ≤ B) := Nat.le_trans BB.out.size lb9; have BB : Hid (Below w.heap.size w w2) := BB.out.trans (B9.mono BB.out.size); clear b9 lb9 B9 t1; have t2 : (2 : Nat) = 2 := rfl)
    | (have q0 := t0; go_at_call 9; refine (SN.out w).mono ?_; rintro e9 w1 ⟨H, M, rfl, c9, m9, B9, p9, n9, l9, -, -⟩; have HC : Hid (Cs H M w1 (na.new (H.S + 88)) []) := c9; have HM : Hid (∀ k, M k = true → w.heap.size ≤ k) := m9; have HNP : Hid (nc H.S ≤ H.P ∧ 1 ≤ nc H.S) := ⟨p9, by omega⟩; have HPL : Hid (∀ j, H.pl j = none) := l9; have BB : Hid (Below w.heap.size w w1) := B9; clear c9 m9 B9 p9 n9 l9 t0; have t1 : (1 : Nat) = 1 := rfl))
  go_ret
  exact ⟨rfl, BB.out⟩
end Go.Proofs.YtakibiigcdgohaaGreatDoor.vb
namespace Go.Proofs.YtakibiigcdgohaaGreatDoor.ck
open Go.RowKit Go.Proofs.YtakibiigcdgohaaGreatDoor.fa Go.Proofs.YtakibiigcdgohaaGreatDoor.he Go.Proofs.YtakibiigcdgohaaGreatDoor.pa
set_option maxRecDepth 20000
set_option maxHeartbeats 4000000 in
theorem rmake_own (g0 g1 g3 g4 g5 : Int) (S : Nat) (k n c l e t : Int) (pv tv : Value) (p tag : List Int) (w : World) (hp : Byt w pv p) (ht : Byt w tv tag) (hH : Hb l e t) (hS : 32 ≤ S ∧ S ≤ 4096) (hk : Rh k n c) (hl : p.length = S) (hn : tag.length = 0 ∨ tag.length = 32) :
    Calls Tryz.prog 52 #[.agg (ints .i64 [g0, g1, (S : Int), g3, g4, g5]), .agg (hv k n c l e t).toArray, pv, tv] w fun x w' => ∃ v, x = .returned v ∧ Own w.heap.size w' v (plo S p ++ hend (hb k n c l e t) (tgo tag) (List.replicate 8 255)) ∧ Below w.heap.size w w' := by
  have SE : Hid (∀ w0, Below w.heap.size w w0 → Calls Tryz.prog 74 #[.agg (hv k n c l e t).toArray, tv] w0 fun x w' => ∃ v, x = .returned v ∧ Byt w' v (hend (hb k n c l e t) (tgo tag) (List.replicate 8 255)) ∧ Below w0.heap.size w0 w') := fun w0 hb => rend_any k n c l e t tv tag w0 (ht.below hb) hk hH.1 hH.2.1 hH.2.2 hn
  have EL : Hid ((hend (hb k n c l e t) (tgo tag) (List.replicate 8 255)).length = 88) := hend_len (hb_len _ _ _ _ _ _) (tgo_len hn) (by simp)
  have EA : Hid (AllB (hend (hb k n c l e t) (tgo tag) (List.replicate 8 255))) := pa.hend_all hk (pa.tgo_all ht.all) (allB_replicate 255 _ (by omega))
  have ez : plo S p = p := if_neg (by omega)
  rw [ez]
  have ZL : Hid (p.length ≤ 10000) := (by show p.length ≤ 10000; omega)
  have ZA : Hid (AllB (p ++ hend (hb k n c l e t) (tgo tag) (List.replicate 8 255))) := allB_app hp.all EA.out
  generalize hend (hb k n c l e t) (tgo tag) (List.replicate 8 255) = E at SE EL EA ZA ⊢
  obtain ⟨po, pc, rfl⟩ : ∃ po pc, pv = .slice po S pc := (by obtain ⟨ao, cap, e, _⟩ := hp; rw [hl] at e; exact ⟨ao, cap, e⟩)
  have HP : Hid (Byt w (.slice po S pc) p) := hp
  have n0 : ((S : Int) == 0) = false := beq_eq_false_iff_ne.2 (by omega)
  clear hk hn hS hl ez hH hp ht
  have t0 : (0 : Nat) = 0 := rfl
  go_enter Tryz.func52, Tryz.ntmps52
  go_wp2_with (first
    | (have q1 := t1; refine box_lawC _ (hv k n c l e t) rfl ?_; intro w2 X9 B9 l9; have HB0 : Hid (Vr w2 w.heap.size [.int .i64 g0, .int .i64 g1, .int .i64 (S : Int), .int .i64 g3, .int .i64 g4, .int .i64 g5]) := HB0.out.below B9 (range_lt HB0.out.1 (Nat.succ_pos _)); have HB1 : Hid (Vr w2 w1.heap.size (hv k n c l e t)) := X9; have BB : Hid (Below w.heap.size w w2) := BB.out.trans (B9.mono BB.out.size); have hb0_0 := HB0.out.cell 0 _ rfl; have hb0_1 := HB0.out.cell 1 _ rfl; have hb0_2 := HB0.out.cell 2 _ rfl; have hb0_3 := HB0.out.cell 3 _ rfl; have hb0_4 := HB0.out.cell 4 _ rfl; have hb0_5 := HB0.out.cell 5 _ rfl; have hb1_0 := HB1.out.cell 0 _ rfl; have hb1_1 := HB1.out.cell 1 _ rfl; have hb1_2 := HB1.out.cell 2 _ rfl; have hb1_3 := HB1.out.cell 3 _ rfl; have hb1_4 := HB1.out.cell 4 _ rfl; have hb1_5 := HB1.out.cell 5 _ rfl; clear X9 B9 l9; clear t1; have t2 : (1 : Nat) = 1 := rfl)
    | (have q0 := t0; refine box_lawC _ [.int .i64 g0, .int .i64 g1, .int .i64 (S : Int), .int .i64 g3, .int .i64 g4, .int .i64 g5] rfl ?_; intro w1 X9 B9 l9; have HB0 : Hid (Vr w1 w.heap.size [.int .i64 g0, .int .i64 g1, .int .i64 (S : Int), .int .i64 g3, .int .i64 g4, .int .i64 g5]) := X9; have BB : Hid (Below w.heap.size w w1) := B9; clear X9 B9 l9; clear t0; have t1 : (1 : Nat) = 1 := rfl))
  refine wp_region_held_drew (S := fun w' => Below w2.heap.size w2 w') (by kernel_rfl) (Below.refl _ _).drew (fun hS => ?_)
  obtain ⟨x1, hx0⟩ : ∃ x, x = w2.drew := ⟨_, rfl⟩
  rw [← hx0] at hS  ⊢
  clear hx0
  refine take_lawH 1 (some 16) (.slice po S pc) rfl rfl (by kernel_rfl) (by kernel_rfl) (by kernel_rfl) (fun _ _ _ h => h) (Or.inl ⟨by rfl, fun w' hw' => by rfl⟩) hS ?_
  simp only [Act.put, List.setIfInBounds_toArray, List.set_cons_zero, List.set_cons_succ]
  refine take_lawH 3 (some 18) (.agg (hv k n c l e t).toArray) rfl rfl (by kernel_rfl) (by kernel_rfl) (by kernel_rfl) (fun _ _ _ h => h) (Or.inl ⟨by rfl, fun w' hw' => by exact exec_loadN 119 (.tmp 5) rfl _ rfl _ _ (load_cells rowy_head (HB1.out.below hw' (range_lt HB1.out.1 (Nat.succ_pos _))).1)⟩) hS ?_
  simp only [Act.put, List.setIfInBounds_toArray, List.set_cons_zero, List.set_cons_succ]
  refine take_lawH 4 (some 19) (tv) rfl rfl (by kernel_rfl) (by kernel_rfl) (by kernel_rfl) (fun _ _ _ h => h) (Or.inl ⟨by rfl, fun w' hw' => by rfl⟩) hS ?_
  simp only [Act.put, List.setIfInBounds_toArray, List.set_cons_zero, List.set_cons_succ]
  refine wpAnyH_ready (rs := [0]) (by kernel_rfl) (by simp) ?_
  refine AllReadyH.cons rfl (fun K hK => ?_) AllReadyH.nil
  refine step_nil _ rfl (some 15) rfl rfl ?_
  intro nv x2 O9 hb
  have z0 : w2.heap.size ≤ x1.heap.size := hS.size
  have ON : Hid (Own w2.heap.size x2 nv []) := own_less O9 z0
  have hS : Below w2.heap.size w2 x2 := hS.trans (hb.mono hS.size)
  clear hb O9 z0
  refine hK.out _ _ hS (fun _ => ?_)
  simp only [Act.put, List.setIfInBounds_toArray, List.set_cons_zero, List.set_cons_succ]
  clear hK K
  refine wpAnyH_ready (rs := [2]) (by kernel_rfl) (by simp) ?_
  refine AllReadyH.cons rfl (fun K hK => ?_) AllReadyH.nil
  refine step_pushs _ rfl (some 17) rfl (.tmp 15) (.tmp 16) rfl w2.heap.size hS.size _ _ [] p rfl rfl ON.out (HP.out.below (BB.out.trans (hS.mono BB.out.size))) (by simp) (by have := ZL.out; omega) ?_
  intro pv1 x3 O9 hb
  have ON : Hid (Own w2.heap.size x3 pv1 p) := (by rw [List.nil_append] at O9; exact O9)
  have hS : Below w2.heap.size w2 x3 := hS.trans hb
  clear hb O9
  refine hK.out _ _ hS (fun _ => ?_)
  simp only [Act.put, List.setIfInBounds_toArray, List.set_cons_zero, List.set_cons_succ]
  clear hK K
  refine wpAnyH_ready (rs := [5]) (by kernel_rfl) (by simp) ?_
  refine AllReadyH.cons rfl (fun K hK => ?_) AllReadyH.nil
  refine step_callW _ (by rfl) (some 20) rfl 74 #[.tmp 18, .tmp 19] #[119, 35] rfl (fun q w' => by rfl) #[.agg (hv k n c l e t).toArray, tv] (by simp only [List.map_toArray, List.map_cons, List.map_nil]; rfl) (fun u w' => Byt w' u E ∧ Below x3.heap.size x3 w') ?_ ?_
  · exact SE.out _ (BB.out.trans (hS.mono BB.out.size))
  rintro ev x4 ⟨y9, hb⟩
  have HE : Hid (Byt x4 ev E) := y9
  have ON : Hid (Own w2.heap.size x4 pv1 p) := own_low ON.out hb
  have hS : Below w2.heap.size w2 x4 := hS.trans (hb.mono hS.size)
  clear hb y9
  refine hK.out _ _ hS (fun _ => ?_)
  simp only [Act.put, List.setIfInBounds_toArray, List.set_cons_zero, List.set_cons_succ]
  clear hK K
  refine wpAnyH_ready (rs := [6]) (by kernel_rfl) (by simp) ?_
  refine AllReadyH.cons rfl (fun K hK => ?_) AllReadyH.nil
  refine step_pushs _ rfl (some 21) rfl (.tmp 17) (.tmp 20) rfl w2.heap.size hS.size _ _ p E rfl rfl ON.out HE.out (by have := ZL.out; omega) (by have := EL.out; omega) ?_
  intro rv x5 O9 hb
  have HR : Hid (Own w2.heap.size x5 rv (p ++ E)) := O9
  have hS : Below w2.heap.size w2 x5 := hS.trans hb
  clear hb O9
  refine hK.out _ _ hS (fun _ => ?_)
  simp only [Act.put, List.setIfInBounds_toArray, List.set_cons_zero, List.set_cons_succ]
  clear hK K
  refine take_lawH 7 (some 8) (rv) rfl rfl (by kernel_rfl) (by kernel_rfl) (by kernel_rfl) (fun _ _ _ h => h) (Or.inl ⟨by rfl, fun w' hw' => by rfl⟩) hS ?_
  simp only [Act.put, List.setIfInBounds_toArray, List.set_cons_zero, List.set_cons_succ]
  refine wpAnyH_done (by kernel_rfl) ?_ _
  have BZ : Hid (Below w.heap.size w _) := BB.out.trans (hS.mono BB.out.size)
  clear hS
  go_wp2
  go_ret
  exact ⟨_, rfl, own_less HR.out BB.out.size, BZ.out⟩
end Go.Proofs.YtakibiigcdgohaaGreatDoor.ck
namespace Go.Proofs.YtakibiigcdgohaaGreatDoor.ck
open Go.RowKit Go.Proofs.YtakibiigcdgohaaGreatDoor.fa Go.Proofs.YtakibiigcdgohaaGreatDoor.he Go.Proofs.YtakibiigcdgohaaGreatDoor.pa
set_option maxRecDepth 20000
set_option maxHeartbeats 4000000 in
theorem rpages_any (g0 g1 g3 g4 g5 : Int) (S : Nat) (v : Value) (xs : List Int) (gen : Int) (w : World) (hr : ge.Rt [g0, g1, (S : Int), g3, g4, g5]) (hb : Byt w v xs) (hl : xs.length = 624) (hg : 0 ≤ gen ∧ gen ≤ 18446744073709551615) :
    Calls Tryz.prog 30 #[.agg (ints .i64 [g0, g1, (S : Int), g3, g4, g5]), v, .int .u64 gen] w fun x w' => ∃ r, x = .returned r ∧ Pgs w' r (fl (P255 S xs gen) (nc S)) ∧ Below w.heap.size w w' := by
  have ⟨s1, s2⟩ := rt_sec hr
  have hn := nc_le s1 s2
  have HB : Hid (Byt w v xs) := hb
  have HL : Hid (xs.length = 624) := hl
  have SC : Hid (∀ w0, Calls Tryz.prog 22 #[.agg (ints .i64 [g0, g1, (S : Int), g3, g4, g5])] w0 fun x w' => x = .returned (.int .i64 (nc S : Int)) ∧ Below w0.heap.size w0 w') := fun w0 => rchunks_nc hr w0
  have SF : Hid (∀ w0, Calls Tryz.prog 51 #[.int .u8 255, .int .i64 (((nc S * S : Nat) : Int) - 624)] w0 fun e w' => ∃ v, e = .returned v ∧ Byt w' v (List.replicate (nc S * S - 624) 255) ∧ Below w0.heap.size w0 w') := fun w0 => by
    have z := rfill_any 255 (((nc S * S : Nat) : Int) - 624) w0 (by omega)
    rw [show clamp (((nc S * S : Nat) : Int) - 624) 65536 = nc S * S - 624 by unfold clamp; omega] at z
    exact z
  have SH : Hid (∀ {k : Nat} w0, Calls Tryz.prog 53 #[.agg (ints .i64 [g0, g1, (S : Int), g3, g4, g5]), .int .i64 (k : Int), .int .u64 gen] w0 fun x w' => x = .returned (.agg (hv 4 (k : Int) 0 (nc S : Int) gen 0).toArray) ∧ Below w0.heap.size w0 w') := fun {k} w0 => rhead_any g0 g1 g3 g4 g5 S k gen w0 hr
  have SM : Hid (∀ {k : Nat} w0 u, k < nc S → Byt w0 u (sec S xs k) → Calls Tryz.prog 52 #[.agg (ints .i64 [g0, g1, (S : Int), g3, g4, g5]), .agg (hv 4 (k : Int) 0 (nc S : Int) gen 0).toArray, u, .slice none 0 0] w0 fun x w' => ∃ v, x = .returned v ∧ Own w0.heap.size w' v (P255 S xs gen k) ∧ Below w0.heap.size w0 w') := fun {k} w0 u hk hu => by
    have z := rmake_own g0 g1 g3 g4 g5 S 4 k 0 (nc S) gen 0 u (.slice none 0 0) (sec S xs k) [] w0 hu (Byt.nil w0) ⟨⟨by omega, by omega⟩, hg, by omega, by omega⟩ ⟨s1, s2⟩ (rh_k s1 s2 hk) (sec_len s1 s2 hl hk) (.inl rfl)
    rwa [make_p255 s1 s2 hl hk] at z
  have XL : Hid ((pd S xs).length = nc S * S) := pd_len s1 s2 hl
  have XA : Hid (AllB (pd S xs)) := pd_all hb.all
  have XE : Hid (xs ++ List.replicate (nc S * S - 624) 255 = pd S xs) := rfl
  have XS : Hid (∀ i, i < nc S → sub (pd S xs) (i * S) (i * S + S) = sec S xs i) := fun i _ => rfl
  have SE : Hid (∀ i, i < nc S → i * S + S ≤ nc S * S) := fun i hi => sec_end hi
  have FA : Hid (∀ i, i < nc S → AllB (P255 S xs gen i)) := fun i hi => p255_all s1 s2 hi hb.all
  have FL : Hid ((List.replicate (nc S * S - 624) (255 : Int)).length ≤ 10000) := (by show _ ≤ _; rw [List.length_replicate]; omega)
  have MQ : Hid (IntKind.i64.wrap ((nc S : Int) * (S : Int)) = ((nc S * S : Nat) : Int)) := wrap_mul hn.2.1 s2
  have MD : Hid (IntKind.i64.wrap (((nc S * S : Nat) : Int) - 624) = ((nc S * S : Nat) : Int) - 624) := wrap_small ⟨by omega, by omega⟩
  generalize P255 S xs gen = F at SM FA ⊢
  generalize sec S xs = sq at SM XS
  generalize pd S xs = X at XL XA XE XS
  generalize List.replicate (nc S * S - 624) (255 : Int) = Fl at SF XE FL
  generalize nc S * S = M at SF XL SE MQ MD hn
  generalize nc S = N at SC SH SM XS SE FA MQ hn ⊢
  have n20 : N ≤ 20 := hn.2.1
  have s4 : S ≤ 4096 := s2
  clear hr hb hl hn hg s1 s2
  have t0 : (0 : Nat) = 0 := rfl
  go_enter Tryz.func30, Tryz.ntmps30
  go_wp2_with (first
    | (have q2 := t2; go_at_call 22; refine (SC.out w2).mono ?_; rintro e9 w3 ⟨rfl, B9⟩; have HB0 : Hid (Vr w3 w.heap.size [.int .i64 g0, .int .i64 g1, .int .i64 (S : Int), .int .i64 g3, .int .i64 g4, .int .i64 g5]) := HB0.out.below B9 (range_lt HB0.out.1 (Nat.succ_pos _)); have HN : Hid (OwnR w1.heap.size w3 (.slice (some ⟨w1.heap.size, 0, none⟩) 0 0) []) := HN.out.below B9; have BB : Hid (Below w.heap.size w w3) := BB.out.trans (B9.mono BB.out.size); clear hb0_0 hb0_1 hb0_2 hb0_3 hb0_4 hb0_5; have hb0_0 := HB0.out.cell 0 _ rfl; have hb0_1 := HB0.out.cell 1 _ rfl; have hb0_2 := HB0.out.cell 2 _ rfl; have hb0_3 := HB0.out.cell 3 _ rfl; have hb0_4 := HB0.out.cell 4 _ rfl; have hb0_5 := HB0.out.cell 5 _ rfl; have BO : Hid (Below w1.heap.size w1 w3) := BO.out.trans (B9.mono BO.out.size); clear B9; clear t2; have t3 : (1 : Nat) = 1 := rfl)
    | (have q1 := t1; have BQ := BB; have HBQ := HB0; refine nil_lawR _ rfl rfl ?_; intro w2 o9 B9; have HB0 : Hid (Vr w2 w.heap.size [.int .i64 g0, .int .i64 g1, .int .i64 (S : Int), .int .i64 g3, .int .i64 g4, .int .i64 g5]) := HB0.out.below B9 (range_lt HB0.out.1 (Nat.succ_pos _)); have HN : Hid (OwnR w1.heap.size w2 (.slice (some ⟨w1.heap.size, 0, none⟩) 0 0) []) := o9; have BB : Hid (Below w.heap.size w w2) := BB.out.trans (B9.mono BB.out.size); clear hb0_0 hb0_1 hb0_2 hb0_3 hb0_4 hb0_5; have hb0_0 := HB0.out.cell 0 _ rfl; have hb0_1 := HB0.out.cell 1 _ rfl; have hb0_2 := HB0.out.cell 2 _ rfl; have hb0_3 := HB0.out.cell 3 _ rfl; have hb0_4 := HB0.out.cell 4 _ rfl; have hb0_5 := HB0.out.cell 5 _ rfl; have BO : Hid (Below w1.heap.size w1 w2) := B9; clear B9 o9; clear t1; have t2 : (1 : Nat) = 1 := rfl)
    | (have q0 := t0; refine box_lawC _ [.int .i64 g0, .int .i64 g1, .int .i64 (S : Int), .int .i64 g3, .int .i64 g4, .int .i64 g5] rfl ?_; intro w1 X9 B9 l9; have HB0 : Hid (Vr w1 w.heap.size [.int .i64 g0, .int .i64 g1, .int .i64 (S : Int), .int .i64 g3, .int .i64 g4, .int .i64 g5]) := X9; have BB : Hid (Below w.heap.size w w1) := B9; have hb0_0 := HB0.out.cell 0 _ rfl; have hb0_1 := HB0.out.cell 1 _ rfl; have hb0_2 := HB0.out.cell 2 _ rfl; have hb0_3 := HB0.out.cell 3 _ rfl; have hb0_4 := HB0.out.cell 4 _ rfl; have hb0_5 := HB0.out.cell 5 _ rfl; clear X9 B9 l9; clear t0; have t1 : (1 : Nat) = 1 := rfl))
  refine wp_region_held_drew (S := fun w' => Below w3.heap.size w3 w') (by kernel_rfl) (Below.refl _ _).drew (fun hS => ?_)
  obtain ⟨x1, hx0⟩ : ∃ x, x = w3.drew := ⟨_, rfl⟩
  rw [← hx0] at hS  ⊢
  clear hx0
  refine take_lawH 1 (some 15) (v) rfl rfl (by kernel_rfl) (by kernel_rfl) (by kernel_rfl) (fun _ _ _ h => h) (Or.inl ⟨by rfl, fun w' hw' => by rfl⟩) hS ?_
  simp only [Act.put, List.setIfInBounds_toArray, List.set_cons_zero, List.set_cons_succ]
  refine take_lawH 3 (some 17) (.int .i64 (N : Int)) rfl rfl (by kernel_rfl) (by kernel_rfl) (by kernel_rfl) (fun _ _ _ h => h) (Or.inl ⟨by rfl, fun w' hw' => by rfl⟩) hS ?_
  simp only [Act.put, List.setIfInBounds_toArray, List.set_cons_zero, List.set_cons_succ]
  refine take_lawH 4 (some 18) (.pointer (some ⟨w.heap.size, 2, none⟩)) rfl rfl (by kernel_rfl) (by kernel_rfl) (by kernel_rfl) (fun _ _ _ h => h) (Or.inl ⟨by rfl, fun w' hw' => by go_simp⟩) hS ?_
  simp only [Act.put, List.setIfInBounds_toArray, List.set_cons_zero, List.set_cons_succ]
  refine take_lawH 5 (some 19) (.int .i64 (S : Int)) rfl rfl (by kernel_rfl) (by kernel_rfl) (by kernel_rfl) (fun _ _ _ h => h) (Or.inl ⟨by rfl, fun w' hw' => by exact exec_loadN 3 (.tmp 18) rfl _ rfl _ _ (ld_int ((HB0.out.below hw' (range_lt HB0.out.1 (Nat.succ_pos _))).cell 2 _ rfl))⟩) hS ?_
  simp only [Act.put, List.setIfInBounds_toArray, List.set_cons_zero, List.set_cons_succ]
  refine take_lawH 6 (some 20) (.int .i64 (M : Int)) rfl rfl (by kernel_rfl) (by kernel_rfl) (by kernel_rfl) (fun _ _ _ h => h) (Or.inl ⟨by rfl, fun w' hw' => by exact exec_mul (.tmp 17) (.tmp 19) rfl (N : Int) (S : Int) _ rfl rfl MQ.out⟩) hS ?_
  simp only [Act.put, List.setIfInBounds_toArray, List.set_cons_zero, List.set_cons_succ]
  refine take_lawH 7 (some 21) (.int .i64 ((M : Int) - 624)) rfl rfl (by kernel_rfl) (by kernel_rfl) (by kernel_rfl) (fun _ _ _ h => h) (Or.inl ⟨by rfl, fun w' hw' => by exact exec_sub (.tmp 20) (.const (.int .i64 624)) rfl (M : Int) 624 _ rfl rfl MD.out⟩) hS ?_
  simp only [Act.put, List.setIfInBounds_toArray, List.set_cons_zero, List.set_cons_succ]
  refine wpAnyH_ready (rs := [0]) (by kernel_rfl) (by simp) ?_
  refine AllReadyH.cons rfl (fun K hK => ?_) AllReadyH.nil
  refine step_nil _ rfl (some 14) rfl rfl ?_
  intro nv x2 O9 hb
  have z0 : w3.heap.size ≤ x1.heap.size := hS.size
  have ON : Hid (Own w3.heap.size x2 nv []) := own_less O9 z0
  have hS : Below w3.heap.size w3 x2 := hS.trans (hb.mono hS.size)
  clear hb O9 z0
  refine hK.out _ _ hS (fun _ => ?_)
  simp only [Act.put, List.setIfInBounds_toArray, List.set_cons_zero, List.set_cons_succ]
  clear hK K
  refine wpAnyH_ready (rs := [2]) (by kernel_rfl) (by simp) ?_
  refine AllReadyH.cons rfl (fun K hK => ?_) AllReadyH.nil
  refine step_pushs _ rfl (some 16) rfl (.tmp 14) (.tmp 15) rfl w3.heap.size hS.size _ _ [] xs rfl rfl ON.out (HB.out.below (BB.out.trans (hS.mono BB.out.size))) (by simp) (by have := HL.out; omega) ?_
  intro pv1 x3 O9 hb
  have ON : Hid (Own w3.heap.size x3 pv1 xs) := (by rw [List.nil_append] at O9; exact O9)
  have hS : Below w3.heap.size w3 x3 := hS.trans hb
  clear hb O9
  refine hK.out _ _ hS (fun _ => ?_)
  simp only [Act.put, List.setIfInBounds_toArray, List.set_cons_zero, List.set_cons_succ]
  clear hK K
  refine wpAnyH_ready (rs := [8]) (by kernel_rfl) (by simp) ?_
  refine AllReadyH.cons rfl (fun K hK => ?_) AllReadyH.nil
  refine step_callW _ (by rfl) (some 22) rfl 51 #[.const (.int .u8 255), .tmp 21] #[5, 3] rfl (fun q w' => by rfl) #[.int .u8 255, .int .i64 ((M : Int) - 624)] (by simp only [List.map_toArray, List.map_cons, List.map_nil]; rfl) (fun u w' => Byt w' u Fl ∧ Below x3.heap.size x3 w') ?_ ?_
  · exact (SF.out x3).mono fun e w' ⟨v, h1, h2, h3⟩ => ⟨_, h1, h2, h3⟩
  rintro fv x4 ⟨y9, hb⟩
  have HF : Hid (Byt x4 fv Fl) := y9
  have ON : Hid (Own w3.heap.size x4 pv1 xs) := own_low ON.out hb
  clear y9
  have hS : Below w3.heap.size w3 x4 := hS.trans (hb.mono hS.size)
  clear hb
  refine hK.out _ _ hS (fun _ => ?_)
  simp only [Act.put, List.setIfInBounds_toArray, List.set_cons_zero, List.set_cons_succ]
  clear hK K
  refine wpAnyH_ready (rs := [9]) (by kernel_rfl) (by simp) ?_
  refine AllReadyH.cons rfl (fun K hK => ?_) AllReadyH.nil
  refine step_pushs _ rfl (some 23) rfl (.tmp 16) (.tmp 22) rfl w3.heap.size hS.size _ _ xs Fl rfl rfl ON.out HF.out (by have := HL.out; omega) (by have := FL.out; omega) ?_
  intro av x5 O9 hb
  have HX : Hid (Own w3.heap.size x5 av X) := (by rw [XE.out] at O9; exact O9)
  have hS : Below w3.heap.size w3 x5 := hS.trans hb
  clear hb O9
  refine hK.out _ _ hS (fun _ => ?_)
  simp only [Act.put, List.setIfInBounds_toArray, List.set_cons_zero, List.set_cons_succ]
  clear hK K
  refine take_lawH 10 (some 9) (av) rfl rfl (by kernel_rfl) (by kernel_rfl) (by kernel_rfl) (fun _ _ _ h => h) (Or.inl ⟨by rfl, fun w' hw' => by rfl⟩) hS ?_
  simp only [Act.put, List.setIfInBounds_toArray, List.set_cons_zero, List.set_cons_succ]
  refine wpAnyH_done (by kernel_rfl) ?_ _
  have HX : Hid (Own w1.heap.size x5 av X) := own_less HX.out BO.out.size
  have HP0 : Hid (Pgk w1.heap.size x5 (.slice (some ⟨w1.heap.size, 0, none⟩) 0 0) F 0) := Pgk.empty (HN.out.below hS) F
  have BO : Hid (Below w1.heap.size w1 x5) := BO.out.trans (hS.mono BO.out.size)
  have BW : Hid (Below w.heap.size w w1) := BQ.out
  clear hS BB HN ON HF HB0 hb0_0 hb0_1 hb0_2 hb0_3 hb0_4 hb0_5
  have HB0 := HBQ
  go_wp2
  go_loopw [10, 7] (fun i r wr => ∃ k : Nat, k ≤ N ∧ i = .int .i64 (k : Int) ∧ Pgk w1.heap.size wr r F k ∧ Own w1.heap.size wr av X ∧ Below w1.heap.size w1 wr) (fun i _ _ => N - (intOf i).toNat)
  case atStart => exact ⟨0, Nat.zero_le _, rfl, HP0.out, HX.out, BO.out⟩
  case round =>
    obtain ⟨k, hk, rfl, hR, hX, hB⟩ := hrel
    have BR : Hid (Below w1.heap.size w1 wr) := hB
    clear hB HX HP0 BO
    by_cases hlt : k < N
    · have lk : (k : Int) < (N : Int) := by omega
      have HR : Hid (Pgk w1.heap.size wr u7 F k) := hR
      have HX : Hid (Own w1.heap.size wr av X) := hX
      have YX : Hid (Byt wr av X) := hX.byt XA.out
      obtain ⟨p0, e0⟩ : ∃ z : Nat, z = k * S := ⟨_, rfl⟩
      obtain ⟨p1, e1⟩ : ∃ z : Nat, z = k * S + S := ⟨_, rfl⟩
      have m0 : Hid (IntKind.i64.wrap ((k : Int) * (S : Int)) = (p0 : Int)) := (by show _ = _; rw [e0]; exact wrap_mul (by omega) s4)
      have m1 : Hid (IntKind.i64.wrap ((p0 : Int) + (S : Int)) = (p1 : Int)) := (by show _ = _; have := mul_small (k := k) (S := S) (by omega) s4; rw [wrap_small ⟨by omega, by omega⟩]; omega)
      have pl : Hid (p0 ≤ p1 ∧ p1 ≤ X.length) := ⟨by omega, by rw [XL.out, e1]; exact SE.out k hlt⟩
      have pq : Hid (sub X p0 p1 = sq k) := (by show _ = _; rw [e0, e1]; exact XS.out k hlt)
      clear e0 e1 hR hX
      go_wp2
      have HR : Hid (Pgk w1.heap.size wr.drew u7 F k) := HR.out.below (Below.refl _ _).drew
      have HX : Hid (Own w1.heap.size wr.drew av X) := own_low HX.out (Below.refl _ _).drew
      refine wp_region_held_drew (S := fun w' => Below w1.heap.size w1 w') (by kernel_rfl) BR.out.drew (fun hS => ?_)
      obtain ⟨y1, hx0⟩ : ∃ x, x = wr.drew := ⟨_, rfl⟩
      rw [← hx0] at hS HR HX ⊢
      clear hx0
      refine take_lawH 0 (some 29) (u7) rfl rfl (by kernel_rfl) (by kernel_rfl) (by kernel_rfl) (fun _ _ _ h => h) (Or.inl ⟨by rfl, fun w' hw' => by rfl⟩) hS ?_
      simp only [Act.put, List.setIfInBounds_toArray, List.set_cons_zero, List.set_cons_succ]
      refine take_lawH 1 (some 30) (.agg ([.int .i64 g0, .int .i64 g1, .int .i64 (S : Int), .int .i64 g3, .int .i64 g4, .int .i64 g5] : List Value).toArray) rfl rfl (by kernel_rfl) (by kernel_rfl) (by kernel_rfl) (fun _ _ _ h => h) (Or.inl ⟨by rfl, fun w' hw' => by exact exec_loadN 23 (.tmp 3) rfl _ rfl _ _ (load_cells rowy_geo (HB0.out.below hw' (range_lt HB0.out.1 (Nat.succ_pos _))).1)⟩) hS ?_
      simp only [Act.put, List.setIfInBounds_toArray, List.set_cons_zero, List.set_cons_succ]
      refine take_lawH 2 (some 31) (.agg ([.int .i64 g0, .int .i64 g1, .int .i64 (S : Int), .int .i64 g3, .int .i64 g4, .int .i64 g5] : List Value).toArray) rfl rfl (by kernel_rfl) (by kernel_rfl) (by kernel_rfl) (fun _ _ _ h => h) (Or.inl ⟨by rfl, fun w' hw' => by exact exec_loadN 23 (.tmp 3) rfl _ rfl _ _ (load_cells rowy_geo (HB0.out.below hw' (range_lt HB0.out.1 (Nat.succ_pos _))).1)⟩) hS ?_
      simp only [Act.put, List.setIfInBounds_toArray, List.set_cons_zero, List.set_cons_succ]
      refine take_lawH 3 (some 32) (.int .i64 (k : Int)) rfl rfl (by kernel_rfl) (by kernel_rfl) (by kernel_rfl) (fun _ _ _ h => h) (Or.inl ⟨by rfl, fun w' hw' => by rfl⟩) hS ?_
      simp only [Act.put, List.setIfInBounds_toArray, List.set_cons_zero, List.set_cons_succ]
      refine take_lawH 4 (some 33) (.int .u64 gen) rfl rfl (by kernel_rfl) (by kernel_rfl) (by kernel_rfl) (fun _ _ _ h => h) (Or.inl ⟨by rfl, fun w' hw' => by rfl⟩) hS ?_
      simp only [Act.put, List.setIfInBounds_toArray, List.set_cons_zero, List.set_cons_succ]
      refine take_lawH 6 (some 35) (av) rfl rfl (by kernel_rfl) (by kernel_rfl) (by kernel_rfl) (fun _ _ _ h => h) (Or.inl ⟨by rfl, fun w' hw' => by rfl⟩) hS ?_
      simp only [Act.put, List.setIfInBounds_toArray, List.set_cons_zero, List.set_cons_succ]
      refine take_lawH 7 (some 36) (.int .i64 (k : Int)) rfl rfl (by kernel_rfl) (by kernel_rfl) (by kernel_rfl) (fun _ _ _ h => h) (Or.inl ⟨by rfl, fun w' hw' => by rfl⟩) hS ?_
      simp only [Act.put, List.setIfInBounds_toArray, List.set_cons_zero, List.set_cons_succ]
      refine take_lawH 8 (some 37) (.pointer (some ⟨w.heap.size, 2, none⟩)) rfl rfl (by kernel_rfl) (by kernel_rfl) (by kernel_rfl) (fun _ _ _ h => h) (Or.inl ⟨by rfl, fun w' hw' => by go_simp⟩) hS ?_
      simp only [Act.put, List.setIfInBounds_toArray, List.set_cons_zero, List.set_cons_succ]
      refine take_lawH 9 (some 38) (.int .i64 (S : Int)) rfl rfl (by kernel_rfl) (by kernel_rfl) (by kernel_rfl) (fun _ _ _ h => h) (Or.inl ⟨by rfl, fun w' hw' => by exact exec_loadN 3 (.tmp 37) rfl _ rfl _ _ (ld_int ((HB0.out.below hw' (range_lt HB0.out.1 (Nat.succ_pos _))).cell 2 _ rfl))⟩) hS ?_
      simp only [Act.put, List.setIfInBounds_toArray, List.set_cons_zero, List.set_cons_succ]
      refine take_lawH 10 (some 39) (.int .i64 (p0 : Int)) rfl rfl (by kernel_rfl) (by kernel_rfl) (by kernel_rfl) (fun _ _ _ h => h) (Or.inl ⟨by rfl, fun w' hw' => by exact exec_mul (.tmp 36) (.tmp 38) rfl (k : Int) (S : Int) _ rfl rfl m0.out⟩) hS ?_
      simp only [Act.put, List.setIfInBounds_toArray, List.set_cons_zero, List.set_cons_succ]
      refine take_lawH 11 (some 40) (.int .i64 (k : Int)) rfl rfl (by kernel_rfl) (by kernel_rfl) (by kernel_rfl) (fun _ _ _ h => h) (Or.inl ⟨by rfl, fun w' hw' => by rfl⟩) hS ?_
      simp only [Act.put, List.setIfInBounds_toArray, List.set_cons_zero, List.set_cons_succ]
      refine take_lawH 12 (some 41) (.pointer (some ⟨w.heap.size, 2, none⟩)) rfl rfl (by kernel_rfl) (by kernel_rfl) (by kernel_rfl) (fun _ _ _ h => h) (Or.inl ⟨by rfl, fun w' hw' => by go_simp⟩) hS ?_
      simp only [Act.put, List.setIfInBounds_toArray, List.set_cons_zero, List.set_cons_succ]
      refine take_lawH 13 (some 42) (.int .i64 (S : Int)) rfl rfl (by kernel_rfl) (by kernel_rfl) (by kernel_rfl) (fun _ _ _ h => h) (Or.inl ⟨by rfl, fun w' hw' => by exact exec_loadN 3 (.tmp 41) rfl _ rfl _ _ (ld_int ((HB0.out.below hw' (range_lt HB0.out.1 (Nat.succ_pos _))).cell 2 _ rfl))⟩) hS ?_
      simp only [Act.put, List.setIfInBounds_toArray, List.set_cons_zero, List.set_cons_succ]
      refine take_lawH 14 (some 43) (.int .i64 (p0 : Int)) rfl rfl (by kernel_rfl) (by kernel_rfl) (by kernel_rfl) (fun _ _ _ h => h) (Or.inl ⟨by rfl, fun w' hw' => by exact exec_mul (.tmp 40) (.tmp 42) rfl (k : Int) (S : Int) _ rfl rfl m0.out⟩) hS ?_
      simp only [Act.put, List.setIfInBounds_toArray, List.set_cons_zero, List.set_cons_succ]
      refine take_lawH 15 (some 44) (.pointer (some ⟨w.heap.size, 2, none⟩)) rfl rfl (by kernel_rfl) (by kernel_rfl) (by kernel_rfl) (fun _ _ _ h => h) (Or.inl ⟨by rfl, fun w' hw' => by go_simp⟩) hS ?_
      simp only [Act.put, List.setIfInBounds_toArray, List.set_cons_zero, List.set_cons_succ]
      refine take_lawH 16 (some 45) (.int .i64 (S : Int)) rfl rfl (by kernel_rfl) (by kernel_rfl) (by kernel_rfl) (fun _ _ _ h => h) (Or.inl ⟨by rfl, fun w' hw' => by exact exec_loadN 3 (.tmp 44) rfl _ rfl _ _ (ld_int ((HB0.out.below hw' (range_lt HB0.out.1 (Nat.succ_pos _))).cell 2 _ rfl))⟩) hS ?_
      simp only [Act.put, List.setIfInBounds_toArray, List.set_cons_zero, List.set_cons_succ]
      refine take_lawH 17 (some 46) (.int .i64 (p1 : Int)) rfl rfl (by kernel_rfl) (by kernel_rfl) (by kernel_rfl) (fun _ _ _ h => h) (Or.inl ⟨by rfl, fun w' hw' => by exact exec_add (.tmp 43) (.tmp 45) rfl (p0 : Int) (S : Int) _ rfl rfl m1.out⟩) hS ?_
      simp only [Act.put, List.setIfInBounds_toArray, List.set_cons_zero, List.set_cons_succ]
      refine take_lawH 18 (some 47) (sl av p0 p1) rfl rfl (by kernel_rfl) (by kernel_rfl) (by kernel_rfl) (fun _ _ _ h => h) (Or.inl ⟨by rfl, fun w' hw' => by exact exec_part (.tmp 35) (.tmp 39) (.tmp 46) rfl av X _ YX.out p0 p1 rfl rfl rfl pl.out.1 pl.out.2 _⟩) hS ?_
      simp only [Act.put, List.setIfInBounds_toArray, List.set_cons_zero, List.set_cons_succ]
      refine wpAnyH_ready (rs := [5]) (by kernel_rfl) (by simp) ?_
      refine AllReadyH.cons rfl (fun K hK => ?_) AllReadyH.nil
      refine step_callW _ (by rfl) (some 34) rfl 53 #[.tmp 31, .tmp 32, .tmp 33] #[23, 3, 41] rfl (fun q w' => by rfl) #[.agg ([.int .i64 g0, .int .i64 g1, .int .i64 (S : Int), .int .i64 g3, .int .i64 g4, .int .i64 g5] : List Value).toArray, .int .i64 (k : Int), .int .u64 gen] (by simp only [List.map_toArray, List.map_cons, List.map_nil]; rfl) (fun u w' => u = .agg (hv 4 (k : Int) 0 (N : Int) gen 0).toArray ∧ Below y1.heap.size y1 w') ?_ ?_
      · exact (SH.out y1).mono fun e w' ⟨h1, h2⟩ => ⟨_, h1, rfl, h2⟩
      rintro _ y2 ⟨rfl, hb⟩
      have HR : Hid (Pgk w1.heap.size y2 u7 F k) := HR.out.below hb
      have HX : Hid (Own w1.heap.size y2 av X) := own_low HX.out hb
      have hS : Below w1.heap.size w1 y2 := hS.trans (hb.mono hS.size)
      clear hb
      refine hK.out _ _ hS (fun _ => ?_)
      simp only [Act.put, List.setIfInBounds_toArray, List.set_cons_zero, List.set_cons_succ]
      clear hK K
      refine wpAnyH_ready (rs := [19]) (by kernel_rfl) (by simp) ?_
      refine AllReadyH.cons rfl (fun K hK => ?_) AllReadyH.nil
      refine step_callW _ (by rfl) (some 48) rfl 52 #[.tmp 30, .tmp 34, .tmp 47, .const (.slice none 0 0)] #[23, 119, 35, 35] rfl (fun q w' => by rfl) #[.agg ([.int .i64 g0, .int .i64 g1, .int .i64 (S : Int), .int .i64 g3, .int .i64 g4, .int .i64 g5] : List Value).toArray, .agg (hv 4 (k : Int) 0 (N : Int) gen 0).toArray, sl av p0 p1, .slice none 0 0] (by simp only [List.map_toArray, List.map_cons, List.map_nil]; rfl) (fun u w' => Own y2.heap.size w' u (F k) ∧ Below y2.heap.size y2 w') ?_ ?_
      · exact (SM.out y2 _ hlt (by have z := sl_sub (HX.out.byt XA.out) p0 p1 pl.out.1 pl.out.2; rw [pq.out] at z; exact z)).mono fun e w' ⟨v, h1, h2, h3⟩ => ⟨_, h1, h2, h3⟩
      rintro pv y3 ⟨o9, hb⟩
      have HR : Hid (Pgk w1.heap.size y3 u7 F k) := HR.out.below hb
      have HX : Hid (Own w1.heap.size y3 av X) := own_low HX.out hb
      have HO : Hid (Own w1.heap.size y3 pv (F k)) := own_less o9 hS.size
      clear o9
      have hS : Below w1.heap.size w1 y3 := hS.trans (hb.mono hS.size)
      clear hb
      refine hK.out _ _ hS (fun _ => ?_)
      simp only [Act.put, List.setIfInBounds_toArray, List.set_cons_zero, List.set_cons_succ]
      clear hK K
      refine wpAnyH_ready (rs := [20]) (by kernel_rfl) (by simp) ?_
      refine AllReadyH.cons rfl (fun K hK => ?_) AllReadyH.nil
      refine step_oneR _ (by rfl) (some 49) rfl (.tmp 48) rfl pv (own_sle HO.out) rfl ?_
      intro y4 o9 hb
      have O8 : Hid (OwnR y3.heap.size y4 (.slice (some ⟨y3.heap.size, 0, none⟩) 1 1) [pv]) := o9
      have HR : Hid (Pgk w1.heap.size y4 u7 F k) := HR.out.below hb
      have HX : Hid (Own w1.heap.size y4 av X) := own_low HX.out hb
      have HO : Hid (Own w1.heap.size y4 pv (F k)) := own_low HO.out hb
      have hS : Below w1.heap.size w1 y4 := hS.trans (hb.mono hS.size)
      clear hb o9
      refine hK.out _ _ hS (fun _ => ?_)
      simp only [Act.put, List.setIfInBounds_toArray, List.set_cons_zero, List.set_cons_succ]
      clear hK K
      refine wpAnyH_ready (rs := [21]) (by kernel_rfl) (by simp) ?_
      refine AllReadyH.cons rfl (fun K hK => ?_) AllReadyH.nil
      refine step_pushP _ (by rfl) (some 50) rfl (.tmp 29) (.tmp 49) rfl w1.heap.size _ hS.size u7 _ pv F k rfl rfl HR.out O8.out HO.out (own_sle HO.out) (by omega) ?_
      intro v3 y5 o9 hb k9
      have HZ : Hid (Pgk w1.heap.size y5 v3 F (k + 1)) := o9
      have HX : Hid (Own w1.heap.size y5 av X) := k9 _ _ _ HX.out
      have hS : Below w1.heap.size w1 y5 := hS.trans hb
      clear o9 hb k9
      refine hK.out _ _ hS (fun _ => ?_)
      simp only [Act.put, List.setIfInBounds_toArray, List.set_cons_zero, List.set_cons_succ]
      clear hK K
      refine take_lawH 22 (some 7) (v3) rfl rfl (by kernel_rfl) (by kernel_rfl) (by kernel_rfl) (fun _ _ _ h => h) (Or.inl ⟨by rfl, fun w' hw' => by rfl⟩) hS ?_
      simp only [Act.put, List.setIfInBounds_toArray, List.set_cons_zero, List.set_cons_succ]
      refine wpAnyH_done (by kernel_rfl) ?_ _
      have BZ : Hid (Below w1.heap.size w1 y5) := hS
      clear hS
      go_wp2
      go_roundw
      case rel => exact ⟨k + 1, by omega, by go_num, HZ.out, HX.out, BZ.out⟩
      case measure => simp [intOf]; omega
    · have ek : k = N := by omega
      subst ek
      have HR : Hid (Pgk w1.heap.size wr u7 F k) := hR
      clear hR hX
      go_wp2
      go_ret
      exact ⟨_, rfl, HR.out.pgs FA.out, BW.out.trans (BR.out.mono BW.out.size)⟩
end Go.Proofs.YtakibiigcdgohaaGreatDoor.ck
