/- Parts of the proof: what KeyboxCrashes reaches. No claim of its own. -/
import Derived.Laws.AppendOwnNone
import Derived.Deep.RegionHeld3
import Derived.Lib.SliceRun
import Derived.Deep.DeepCutAuto
import Derived.Deep.Slices
import Derived.ArgAppend
import Derived.WalkKit
import Derived.Deep.QuietTactic
import Derived.Deep.WholeRow
import Derived.Deep.MidRow
import Derived.Laws.StructEq
import Derived.Deep.LoopGhost
import Derived.WalkSmall
import Derived.ProofKit
import Derived.OpenShut
import Derived.BigQuiet
import Derived.Lib.AppendZeros
import Derived.Lib.MakeNoZero
import Derived.Deep.DeepHandedRow
import Derived.Lib.LaidTab
import Derived.Deep.Matrix
import Derived.Laws.Tables
import Derived.Test.YtakibiigcdgohaaGreatDoorC00
import Derived.Test.YtakibiigcdgohaaGreatDoorC01
import Derived.Test.YtakibiigcdgohaaGreatDoorC02
import Derived.Test.YtakibiigcdgohaaGreatDoorC03
import Derived.Test.YtakibiigcdgohaaGreatDoorC04
import Derived.Test.YtakibiigcdgohaaGreatDoorC05
import Derived.Test.YtakibiigcdgohaaGreatDoorC06
import Derived.Test.YtakibiigcdgohaaGreatDoorC07
import Derived.Test.YtakibiigcdgohaaGreatDoorC08
import Derived.Test.YtakibiigcdgohaaGreatDoorC09
import Derived.Test.YtakibiigcdgohaaGreatDoorC10
import Derived.Test.YtakibiigcdgohaaGreatDoorC11
import Derived.Test.YtakibiigcdgohaaGreatDoorC12
import Derived.Test.YtakibiigcdgohaaGreatDoorC13
import Derived.Test.YtakibiigcdgohaaGreatDoorC14
import Derived.Test.YtakibiigcdgohaaGreatDoorC15
import Derived.Test.YtakibiigcdgohaaGreatDoorC16
import Derived.Test.YtakibiigcdgohaaGreatDoorC17
import Derived.Test.YtakibiigcdgohaaGreatDoorC18
import Derived.Test.YtakibiigcdgohaaGreatDoorC19
import Derived.Test.YtakibiigcdgohaaGreatDoorC20
import Derived.Test.YtakibiigcdgohaaGreatDoorC21
import Derived.Test.YtakibiigcdgohaaGreatDoorC22
import Derived.Test.YtakibiigcdgohaaGreatDoorC23
set_option maxHeartbeats 8000000
namespace Go.Proofs.YtakibiigcdgohaaGreatDoor.na
open Go.RowKit Go.Proofs.YtakibiigcdgohaaGreatDoor.fa
set_option maxRecDepth 20000
theorem raw_newV (N P S : Nat) : raw N P (new S) [] = raw0 N P S := by
  have h1 : ∀ n, jnd n (fun _ => List.replicate S (255 : Int)) = List.replicate (n * S) 255 := fun n => by
    induction n with
    | zero => simp [jnd]
    | succ n ih => rw [jnd_succ, ih, Nat.succ_mul, ← List.replicate_append_replicate]
  have h2 : ∀ n, ((List.range n).flatMap fun _ => List.replicate (P * S) (255 : Int)) = List.replicate (n * (P * S)) 255 := fun n => by
    induction n with
    | zero => simp
    | succ n ih => rw [List.range_succ, List.flatMap_append, ih, Nat.succ_mul, ← List.replicate_append_replicate]; simp
  have h3 : img N P (new S) = List.replicate (N * (P * S)) 255 := by
    show ((List.range N).flatMap fun _ => jnd P (fun _ => List.replicate S (255 : Int))) = _
    rw [h1 P, h2 N]
  have h4 : (List.range P).map (fun _ => (0 : Int)) = List.replicate P 0 := by
    rw [List.map_const']
    simp
  unfold raw raw0
  rw [h3]
  show mkX _ (fun b => (List.range P).map (fun _ => (0 : Int))) _ _ _ _ = _
  rw [h4]
  rfl
end Go.Proofs.YtakibiigcdgohaaGreatDoor.na
namespace Go.Proofs.YtakibiigcdgohaaGreatDoor.vb
open Go.RowKit Go.Proofs.YtakibiigcdgohaaGreatDoor.fa Go.Proofs.YtakibiigcdgohaaGreatDoor.he Go.Proofs.YtakibiigcdgohaaGreatDoor.pa Go.Proofs.YtakibiigcdgohaaGreatDoor.ck
def rb (sd : Int) (k : Nat) : Int := bits BinOp.xor IntKind.u8 ((k : Int) % 256 * 7 % 256) sd
def rcd (sd : Int) (n : Nat) : List Int := (List.range n).map (rb sd)
theorem rcd_len (sd : Int) (n : Nat) : (rcd sd n).length = n := by simp [rcd]
theorem rcd_succ (sd : Int) (n : Nat) : rcd sd (n + 1) = rcd sd n ++ [rb sd n] := by simp [rcd, List.range_succ]
theorem rb_byte {sd : Int} (hs : 0 ≤ sd ∧ sd ≤ 255) (k : Nat) : 0 ≤ rb sd k ∧ rb sd k ≤ 255 := by
  unfold rb
  rw [xr_of _ _ (by omega) hs]
  exact xr_bd _ _ (by omega) hs
theorem rcd_all {sd : Int} (hs : 0 ≤ sd ∧ sd ≤ 255) (n : Nat) : AllB (rcd sd n) := allB_mem fun x hx => by
  obtain ⟨k, -, rfl⟩ := List.mem_map.1 hx
  exact rb_byte hs k
theorem record_own (sd : Int) (w : World) :
    Calls Tryz.prog 17 #[.int .u8 sd] w fun e w' => ∃ v, e = .returned v ∧ Own w.heap.size w' v (rcd sd 624) ∧ Below w.heap.size w w' := by
  go_enter Tryz.func17, Tryz.ntmps17
  go_wp2
  go_loopw [3, 4] (fun v i wr => ∃ (k : Nat) (v0 : Value), k ≤ 624 ∧ i = .int .i64 (k : Int) ∧ v = v0 ∧ Hid (Own w.heap.size wr v0 (rcd sd k)) ∧ Hid (Below w.heap.size w wr)) (fun _ i _ => 624 - (intOf i).toNat)
  case atStart => exact ⟨0, _, by omega, rfl, rfl, Own.empty w (Nat.le_refl _), (Below.refl _ _).alloc (Nat.le_refl _) _⟩
  case round =>
    obtain ⟨k, _, hk, rfl, rfl, HO, HB⟩ := hrel
    by_cases hlt : k < 624
    · have lk1 : (k : Int) < 624 := by omega
      have lk2 : IntKind.i64.wrap ((k : Int) + 1) = (k : Int) + 1 := by rw [IntKind.wrap_i64]; omega
      have HK : Hid (k < 624) := hlt
      have t0 := tR
      go_wp2_with (first
        | (have q0 := t0; at_builtin; refine push_law wr rfl (.tmp 10) (.tmp 16) rfl w.heap.size HB.out.size u3 (rcd sd k) (rb sd k) rfl rfl HO.out (by rw [rcd_len]; have := HK.out; omega) ?_; intro v1 w1 o9 b9; have HO1 : Hid (Own w.heap.size w1 v1 (rcd sd (k + 1))) := (by show Own _ _ _ _; rw [rcd_succ]; exact o9); have HB1 : Hid (Below w.heap.size w w1) := HB.out.trans b9; clear o9 b9 t0; have t1 := tR))
      go_roundw
      case rel => exact ⟨k + 1, v1, by omega, by go_num, rfl, HO1, HB1⟩
      case measure => simp [intOf]; omega
    · have ek : k = 624 := by omega
      subst ek
      go_wp2
      go_ret
      exact ⟨_, rfl, HO.out, HB.out⟩
theorem record_any (sd : Int) (hs : 0 ≤ sd ∧ sd ≤ 255) (w : World) :
    Calls Tryz.prog 17 #[.int .u8 sd] w fun e w' => ∃ v, e = .returned v ∧ Byt w' v (rcd sd 624) ∧ Below w.heap.size w w' :=
  (record_own sd w).mono fun _ _ ⟨v, h1, h2, h3⟩ => ⟨v, h1, h2.byt (rcd_all hs _), h3⟩
theorem new_cs (N P S : Nat) (g3 g4 g5 : Int) (hs : na.Shp [(N : Int), (P : Int), (S : Int), g3, g4, g5] N P (S + 88)) (v : Value) (fs : List (Int × Bool × Value)) (ms : Nat → List Int) (w : World) (h : Fls w v fs) (hm : Mks w fs ms) (hl : fs.length ≤ 64) (hk : Okp fs ms fs.length) :
    Calls Tryz.prog 9 #[.agg (ints .i64 [(N : Int), (P : Int), (S : Int), g3, g4, g5]), v] w fun e w' => ∃ H M, e = .returned (.tuple #[.pointer (some ⟨H.c, 0, none⟩), .int .i64 0]) ∧ Cs H M w' (na.new (S + 88)) [] ∧ (∀ k, M k = true → w.heap.size ≤ k) ∧ Below w.heap.size w w' ∧ H.N = N ∧ H.P = P ∧ H.S = S ∧ H.g3 = g3 ∧ H.g4 = g4 ∧ H.g5 = g5 ∧ H.pl = na.plnOf fs ms := by
  refine (na.new_yes (S : Int) g3 g4 g5 N P (S + 88) hs v fs ms w h hm hl hk).mono ?_
  rintro e w' ⟨M, c, r, d, q, pv, tv, h1, h2, h3, h4, h5⟩
  refine ⟨⟨c, r, d, q, pv, N, P, S, g3, g4, g5, na.plnOf fs ms⟩, M, h1, ⟨⟨tv, ?_⟩, h3, na.new_wf N P (S + 88), na.lsp_new N P (S + 88), rfl, fun _ z => absurd z List.not_mem_nil⟩, h4, h5, rfl, rfl, rfl, rfl, rfl, rfl, rfl⟩
  rw [na.raw_newV]
  exact h2
theorem new_kc {S P : Nat} {at' gen : Int} {rec : List Int} (h1 : 1 ≤ nc S) (hP : nc S ≤ P) (h : Kc S ((List.range 4).map (bpg P (na.new (S + 88)))) 4 at' gen rec) : at' = -1 ∧ gen = 0 ∧ rec = [] := by
  rcases h with ⟨a1, a2, a3, -⟩ | ⟨i, hi, -, hk, -⟩
  · exact ⟨a1, a2, a3⟩
  · exfalso
    have e : ((List.range 4).map (bpg P (na.new (S + 88)))).getD i [] = bpg P (na.new (S + 88)) i := by simp [List.getD, hi]
    rw [e] at hk
    have z := (hd_bpg (k := i) h1 hP).2.2.2 hk
    exact blank_open S z.2
end Go.Proofs.YtakibiigcdgohaaGreatDoor.vb
namespace Go.Proofs.YtakibiigcdgohaaGreatDoor.vb
open Go.RowKit Go.Proofs.YtakibiigcdgohaaGreatDoor.fa Go.Proofs.YtakibiigcdgohaaGreatDoor.he Go.Proofs.YtakibiigcdgohaaGreatDoor.pa Go.Proofs.YtakibiigcdgohaaGreatDoor.ck
set_option maxRecDepth 20000
theorem kc_unique {S k : Nat} {bs : List (List (List Int))} {a g a' g' : Int} {r r' : List Int} (h : Kc S bs k a g r) (h' : Kc S bs k a' g' r') : a = a' ∧ g = g' ∧ r = r' := by
  rcases h with ⟨x1, x2, x3, x4⟩ | ⟨i, i1, i2, i3, i4, i5, i6, i7⟩
  · rcases h' with ⟨y1, y2, y3, -⟩ | ⟨j, j1, -, j3, -⟩
    · exact ⟨x1.trans y1.symm, x2.trans y2.symm, x3.trans y3.symm⟩
    · exact absurd j3 (x4 j j1)
  · rcases h' with ⟨-, -, -, y4⟩ | ⟨j, j1, j2, j3, j4, j5, j6, j7⟩
    · exact absurd i3 (y4 i i1)
    · have e : i = j := by
        rcases Nat.lt_trichotomy i j with q | q | q
        · have z1 := j7 i q i3
          have z2 := i6 j j1 j3
          omega
        · exact q
        · have z1 := i7 j q j3
          have z2 := j6 i i1 i3
          omega
      subst e
      exact ⟨i2.trans j2.symm, i4.trans j4.symm, i5.trans j5.symm⟩
section
variable {H : Ch} {M : Nat → Bool} {w : World} {B : Nat} {l : List na.Opn} {s : na.St}
theorem commit_first (h : Bs H M w B (b0 (H.S + 88)) l) (hP : nc H.S ≤ H.P) (hp : ∀ j, j < nc H.S + 5 → H.pl j = none) (v : Value) (xs : List Int) (hy : Byt w v xs) (hl : xs.length = 624) (gen : Int) (hg : 0 ≤ gen ∧ gen ≤ 18446744073709551615) (hT : Tab w) :
    Calls Tryz.prog 18 #[.pointer (some ⟨B, 0, none⟩), v, .int .u64 gen] w fun e w' => ∃ M' l' b1, e = .returned (.int .i64 0) ∧ Bs H M' w' B b1 l' ∧ Fr M w B M' w' ∧ Inv H.S H.N H.P b1 xs ∧ b1.gen = gen ∧ b1.cur = 0 ∧ na.ops b1.s = nc H.S + 5 ∧ b1.hf = false ∧ na.off b1.s = false := by
  have s12 := rt_sec h.1.rt
  have hN := h.num
  obtain ⟨c1, c2, c3, c4, c5, c6, c7⟩ := cmt_first (N := H.N) (P := H.P) (pl := H.pl) s12.1 s12.2 hP (by omega) hl hy.all hg hp
  refine (commit_any h ⟨0, by omega, rfl⟩ v xs hy hl gen hg hT (show (0 : Nat) ≤ 900000 by omega)).mono ?_
  rintro e w' ⟨M', l', h1, h2, h3⟩
  exact ⟨M', l', _, h1.trans (congrArg (fun z => Ending.returned (.int .i64 z)) c1), h2, h3, c2, c3, c7, c4, c5, c6⟩
theorem open_found (h : Cs H M w s l) (ho : na.off s = false) (hT : Tab w) (hP : nc H.S ≤ H.P) (rec : List Int) (g : Int) (hF : Found H.S s rec g) :
    Calls Tryz.prog 10 #[.pointer (some ⟨H.c, 0, none⟩)] w fun e w' => ∃ B c ro rn rc, e = .returned (.tuple #[.pointer (some ⟨B, 0, none⟩), .slice ro rn rc, .int .i64 0]) ∧ Byt w' (.slice ro rn rc) rec ∧ Bs H M w' B (bx0 s c g (hfl l)) l ∧ w.heap.size ≤ B ∧ Below w.heap.size w w' := by
  have s12 := rt_sec h.rt
  obtain ⟨c, -, hk⟩ := found_kc (nc_le s12.1 s12.2).1 hP hF
  refine (open_any h ho hT).mono ?_
  rintro e w' ⟨B, a', g', r', ro, rn, rc, x, h1, h2, h3, h4, h5, h6, h7, h8⟩
  obtain ⟨rfl, rfl, rfl⟩ := kc_unique h4 hk
  rw [h6 (by omega)] at h1
  exact ⟨B, _, ro, rn, rc, h1, h3, h2, h7, h8⟩
theorem open_new (h : Cs H M w (na.new (H.S + 88)) []) (hT : Tab w) (hP : nc H.S ≤ H.P) :
    Calls Tryz.prog 10 #[.pointer (some ⟨H.c, 0, none⟩)] w fun e w' => ∃ B ro rc, e = .returned (.tuple #[.pointer (some ⟨B, 0, none⟩), .slice ro 0 rc, .int .i64 10]) ∧ Bs H M w' B (b0 (H.S + 88)) [] ∧ w.heap.size ≤ B ∧ Below w.heap.size w w' := by
  have s12 := rt_sec h.rt
  refine (open_any h rfl hT).mono ?_
  rintro e w' ⟨B, a', g', r', ro, rn, rc, x, h1, h2, h3, h4, h5, h6, h7, h8⟩
  obtain ⟨rfl, rfl, rfl⟩ := new_kc (nc_le s12.1 s12.2).1 hP h4
  obtain ⟨ao, cap, e1⟩ := byt_form h3 (n := 0) rfl
  injection e1 with e1 e2 e3
  subst e1 e2 e3
  rw [h5 rfl] at h1
  exact ⟨B, _, _, h1, h2, h7, h8⟩
end
theorem ops_cs {H : Ch} {M : Nat → Bool} {w : World} {l : List na.Opn} {s : na.St} (h : Cs H M w s l) : Calls Tryz.prog 23 #[.pointer (some ⟨H.c, 0, none⟩)] w fun e w' => e = .returned (.int .i64 (na.ops s : Int)) ∧ w' = w := by
  obtain ⟨⟨tv, z⟩, -, -, -, hl, -⟩ := h
  obtain ⟨dvs, tO, -, -⟩ := z.2.2.2.2.2.2.2.1
  obtain ⟨tq, tc, e⟩ := tO.rws.form
  rw [na.opcs_len] at e
  have := na.ops_any H.c tq _ tc w (by rw [← e]; exact z.cells.2.2.2.2)
  rw [show (na.xt (na.raw H.N H.P s l)).length = na.ops s from hl] at this
  exact this
theorem new_awake (w : World) : Calls Tryz.prog 9 #[.agg (ints .i64 [7, 10, 64, 0, 1, 1]), .slice none 0 0] w fun e w' => ∃ H M, e = .returned (.tuple #[.pointer (some ⟨H.c, 0, none⟩), .int .i64 0]) ∧ Cs H M w' (na.new (H.S + 88)) [] ∧ (∀ k, M k = true → w.heap.size ≤ k) ∧ Below w.heap.size w w' ∧ nc H.S ≤ H.P ∧ nc H.S = 10 ∧ (∀ j, H.pl j = none) ∧ H.g = [7, 10, 64, 0, 1, 1] ∧ H.S = 64 := by
  have sh : na.Shp [((7 : Nat) : Int), ((10 : Nat) : Int), ((64 : Nat) : Int), 0, 1, 1] 7 10 (64 + 88) := ⟨rfl, ⟨⟨by decide, by decide, by decide, by decide, by decide, by decide⟩, by decide, by decide, by decide⟩, rfl, rfl, rfl⟩
  refine Calls.mono (new_cs 7 10 64 0 1 1 sh (.slice none 0 0) [] (fun _ => []) w ⟨none, 0, rfl, by simp, by simp, fun _ => rfl, fun h => by simp at h⟩ (fun t ht => by simp at ht) (by simp) (fun t ht => by simp at ht)) ?_
  rintro e w' ⟨H, M, h1, h2, h3, h4, n1, n2, n3, n4, n5, n6, n7⟩
  refine ⟨H, M, h1, by rw [n3]; exact h2, h3, h4, by rw [n3, n2]; decide, by rw [n3]; decide, fun j => by rw [n7]; rfl, ?_, n3⟩
  unfold Ch.g
  rw [n1, n2, n3, n4, n5, n6]
  rfl
theorem tab_up {B0 : Nat} {w w' : World} (h : Tab w) (hb : Below B0 w w') (h0 : w.heap.size ≤ B0) : Tab w' := h.below (hb.mono h0)
theorem awake_any (w : World) (hT : Tab w) : Calls Tryz.prog 8 #[] w fun e w' => e = .returned (.bool true) ∧ Below w.heap.size w w' := by
  have HT : Hid (Tab w) := hT
  have SN : Hid (∀ w0, Calls Tryz.prog 9 #[.agg #[.int .i64 7, .int .i64 10, .int .i64 64, .int .i64 0, .int .i64 1, .int .i64 1], .slice none 0 0] w0 fun e w' => ∃ H M, e = .returned (.tuple #[.pointer (some ⟨H.c, 0, none⟩), .int .i64 0]) ∧ Cs H M w' (na.new (H.S + 88)) [] ∧ (∀ k, M k = true → w0.heap.size ≤ k) ∧ Below w0.heap.size w0 w' ∧ nc H.S ≤ H.P ∧ nc H.S = 10 ∧ (∀ j, H.pl j = none) ∧ H.g = [7, 10, 64, 0, 1, 1] ∧ H.S = 64) := fun w0 => new_awake w0
  have SR : Hid (∀ w0, Calls Tryz.prog 17 #[.int .u8 1] w0 fun e w' => ∃ v, e = .returned v ∧ Byt w' v (rcd 1 624) ∧ Below w0.heap.size w0 w') := fun w0 => record_any 1 (by omega) w0
  clear hT
  have t0 := tR
  go_enter Tryz.func8, Tryz.ntmps8
  go_wp2_with (first
    | (have q8 := t8; go_at_call 15; refine (he.same_yes _ _ _ (rcd 1 624) HY2.out HY3.out).mono ?_; rintro e9 w9 ⟨rfl, B9⟩; have BB : Hid (Below w.heap.size w w9) := BB.out.trans (B9.mono BB.out.size); clear B9 t8; have t9 := tR)
    | (have q7 := t7; go_at_call 17; refine (SR.out w5).mono ?_; rintro e9 w6 ⟨rv2, rfl, y9, B9⟩; have HY3 : Hid (Byt w6 rv2 (rcd 1 624)) := y9; have HY2 : Hid (Byt w6 (.slice ro rn rc) (rcd 1 624)) := HY2.out.below B9; have BB : Hid (Below w.heap.size w w6) := BB.out.trans (B9.mono BB.out.size); clear y9 B9 t7; have t8 := tR)
    | (have q6 := t6; go_at_call 28; refine (gen_bs HV.out).mono ?_; rintro e9 w9 ⟨rfl, hw⟩; obtain rfl := hw.symm; rw [HG.out.1]; clear t6; have t7 := tR)
    | (have q5 := t5; go_at_call 26; refine (current_bs HV.out).mono ?_; rintro e9 w9 ⟨rfl, hw⟩; obtain rfl := hw.symm; rw [HG.out.2]; clear t5; have t6 := tR)
    | (have q4 := t4; go_at_call 10; refine (open_found HB.out.1 HOF.out (tab_up HT.out BB.out (Nat.le_refl _)) HNP.out.1 (rcd 1 624) b1.gen (inv_found HNP.out.2 HNP.out.1 HI.out)).mono ?_; rintro e9 w5 ⟨B5, c5, ro, rn, rc, rfl, y9, -, -, B9⟩; have HY2 : Hid (Byt w5 (.slice ro rn rc) (rcd 1 624)) := y9; have HV : Hid (Vr w5 B (bxc H.c b1)) := (HB.out.below B9).2.2.1; have BB : Hid (Below w.heap.size w w5) := BB.out.trans (B9.mono BB.out.size); clear y9 B9 t4; have t5 := tR)
    | (have q3 := t3; go_at_call 18; refine (commit_first HB.out HNP.out.1 (fun j _ => HPL.out j) rv (rcd 1 624) HY.out (rcd_len _ _) 4 (by omega) (tab_up HT.out BB.out (Nat.le_refl _))).mono ?_; rintro e9 w4 ⟨M4, l4, b1, rfl, b9, f9, i9, g9, c9, -, -, o9⟩; have HB : Hid (Bs H M4 w4 B b1 l4) := b9; have HI : Hid (Inv H.S H.N H.P b1 (rcd 1 624)) := i9; have HG : Hid (b1.gen = 4 ∧ b1.cur = 0) := ⟨g9, c9⟩; have HOF : Hid (na.off b1.s = false) := o9; have BB : Hid (Below w.heap.size w w4) := BB.out.trans (f9.below BB.out.size HM.out HLB.out); clear b9 f9 i9 g9 c9 o9 t3; have t4 := tR)
    | (have q2 := t2; go_at_call 17; refine (SR.out w2).mono ?_; rintro e9 w3 ⟨rv, rfl, y9, B9⟩; have HY : Hid (Byt w3 rv (rcd 1 624)) := y9; have HB : Hid (Bs H M w3 B (b0 (H.S + 88)) []) := HB.out.below B9; have BB : Hid (Below w.heap.size w w3) := BB.out.trans (B9.mono BB.out.size); clear y9 B9 t2; have t3 := tR)
    | (have q1 := t1; go_at_call 10; refine (open_new HC.out (tab_up HT.out BB.out (Nat.le_refl _)) HNP.out.1).mono ?_; rintro e9 w2 ⟨B, zo, zc, rfl, b9, lb9, B9⟩; have HB : Hid (Bs H M w2 B (b0 (H.S + 88)) []) := b9; have HLB : Hid (w.heap.size ≤ B) := Nat.le_trans BB.out.size lb9; have BB : Hid (Below w.heap.size w w2) := BB.out.trans (B9.mono BB.out.size); clear b9 lb9 B9 t1; have t2 := tR)
    | (have q0 := t0; go_at_call 9; refine (SN.out w).mono ?_; rintro e9 w1 ⟨H, M, rfl, c9, m9, B9, p9, n9, l9, -, -⟩; have HC : Hid (Cs H M w1 (na.new (H.S + 88)) []) := c9; have HM : Hid (∀ k, M k = true → w.heap.size ≤ k) := m9; have HNP : Hid (nc H.S ≤ H.P ∧ 1 ≤ nc H.S) := ⟨p9, by omega⟩; have HPL : Hid (∀ j, H.pl j = none) := l9; have BB : Hid (Below w.heap.size w w1) := B9; clear c9 m9 B9 p9 n9 l9 t0; have t1 := tR))
  go_ret
  exact ⟨rfl, BB.out⟩
end Go.Proofs.YtakibiigcdgohaaGreatDoor.vb
namespace Go.Proofs.YtakibiigcdgohaaGreatDoor.na
open Go.RowKit Go.Proofs.YtakibiigcdgohaaGreatDoor.fa
set_option maxRecDepth 20000
def Opr (w : World) (v : Value) (tr : List Opn) : Prop := ∃ dv : Nat → Value, Rws w v 5 (opcs tr dv) ∧ ∀ i, i < tr.length → Byt w (dv i) (gO tr i).2.2.2.1
def Ro5 (w : World) (g n : Nat) (tr : List Opn) (dn : Nat → Value) : Prop := ∀ i, i < n → w.rangeAt g (i * 5) (opc (gO tr i) (dn i)) ∧ w.there g (i * 5) 5
theorem Ro5.heap {w w' : World} {g n : Nat} {tr : List Opn} {dn : Nat → Value} (h : Ro5 w g n tr dn) (e : w'.heap[g]? = w.heap[g]?) : Ro5 w' g n tr dn := fun i hi => ⟨range_heap (h i hi).1 e, there_heap (h i hi).2 e⟩
theorem Ro5.set {w : World} {g n k : Nat} {tr : List Opn} {dn : Nat → Value} (h : Ro5 w g n tr dn) (hk : k < n) (u : Value) : Ro5 (w.setCell ⟨g, k * 5 + 3, none⟩ u) g n tr (at1 dn k u) := fun i hi => by
  refine ⟨fun j v hv => ?_, World.there_setCells (h i hi).2 g (k * 5 + 3) [u]⟩
  have hj : j < 5 := by have := (List.getElem?_eq_some_iff.1 hv).1; simpa [opc] using this
  by_cases e : i = k ∧ j = 3
  · obtain ⟨rfl, rfl⟩ := e
    have hv' : v = u := by simp [opc, at1] at hv; exact hv.symm
    rw [hv']
    exact World.cell?_setCell_same _ _ _ ((h i hi).1 3 _ rfl)
  · rw [World.cell?_setCell_other _ _ _ _ (by intro hh; injection hh with _ h2; omega)]
    refine (h i hi).1 j v ?_
    by_cases ei : i = k
    · have ej : j ≠ 3 := fun q => e ⟨ei, q⟩
      rw [← hv]
      match j, hj, ej with
      | 0, _, _ => rfl
      | 1, _, _ => rfl
      | 2, _, _ => rfl
      | 4, _, _ => rfl
    · rw [at1_other _ _ _ _ ei] at hv
      exact hv
theorem Ro5.opr {w : World} {g cap : Nat} {tr : List Opn} {dn : Nat → Value} (h : Ro5 w g tr.length tr dn) (hb : ∀ i, i < tr.length → Byt w (dn i) (gO tr i).2.2.2.1) (h1 : tr.length ≤ cap) (h2 : cap ≤ 9223372036854775807) : Opr w (.slice (some ⟨g, 0, none⟩) tr.length cap) tr :=
  ⟨dn, ⟨some ⟨g, 0, none⟩, cap, by rw [opcs_len], by rw [opcs_len]; exact h1, h2, (by intro e; cases e), fun t ht => by rw [opcs_len] at ht; rw [opcs_el _ _ _ ht]; rfl, fun _ => ⟨g, 0, rfl, fun t ht => by rw [opcs_len] at ht; rw [opcs_el _ _ _ ht, Nat.zero_add]; exact (h t ht).1⟩⟩, hb⟩
theorem opcs_one {tr : List Opn} {dv : Nat → Value} (h : ∀ i, i < tr.length → (dv i).oneCell' = true) : ∀ u ∈ (opcs tr dv).flatten, u.oneCell' = true := fun u hu => by
  simp only [opcs, List.mem_flatten, List.mem_map, List.mem_range] at hu
  obtain ⟨t, ⟨j, hj, rfl⟩, hu⟩ := hu
  simp only [opc, List.mem_cons, List.not_mem_nil, or_false] at hu
  rcases hu with rfl | rfl | rfl | rfl | rfl
  · rfl
  · rfl
  · rfl
  · exact h j hj
  · rfl
theorem pushO_law {ops : Array Oper} {rest : List Oper} {o : Oper} {a : Act} {Q : Exit → Act → World → Prop} (w : World) (hg : o.guard = none) (s x : Operand) (hop : o.op = .call { callee := .builtin .append, args := #[s, x], argTypes := #[82, 82] })
    (B : Nat) (hB : B ≤ w.heap.size) (v vy : Value) (es : List (List Value)) (ad : Addr) (cap : Nat) (hs : a.eval s = v) (hx : a.eval x = vy) (hown : w.ownsRow B 114 5 v 0 []) (hy : vy = .slice (some ad) es.length cap)
    (h6 : ∀ j u, es.flatten[j]? = some u → w.cell? (ad.add j) = some u) (h5 : ∀ t, t < es.length → (el es t).length = 5) (h1 : ∀ u ∈ es.flatten, u.oneCell' = true) (hn : es.length ≤ 1000)
    (hK : ∀ v' w', OwR B w' v' 114 5 es → Below B w w' → wpList Tryz.prog ops Q rest (a.put o.dst v') w') :
    wpList Tryz.prog ops Q (o :: rest) a w := by
  obtain ⟨i0, hi, hz0, hz1, hz2⟩ := info_parts info_op
  subst hy
  refine wpList_append_own _ hg s x 82 hop B 114 i0 _ 5 56 Tryz.underlying82 hi hz0 hz1 hz2 rfl (by decide) v 0 [] hs hown ad es.length cap es.flatten hx (flat_len h5) h6 h1 (by simp only [maxLen]; omega) (by omega) hB fun v' w' O1 G1 _ => ?_
  rw [List.nil_append, Nat.zero_add] at O1
  exact hK v' w' ⟨O1, h5⟩ ((Below.refl B w).grown G1 hB fun k hk => (World.ownsRow.lt hown k hk).1)
theorem cloneO_any (v : Value) (ess : List (List Value)) (w : World) (h : Rws w v 5 ess) (h1 : ∀ u ∈ ess.flatten, u.oneCell' = true) (hl : ess.length ≤ 1000) :
    Calls Tryz.prog 73 #[v] w fun e w' => ∃ v', e = .returned v' ∧ OwR w.heap.size w' v' 114 5 ess ∧ Below w.heap.size w w' := by
  have H1 : Hid (∀ u ∈ ess.flatten, u.oneCell' = true) := h1
  obtain ⟨ao, cap, rfl, a1, a2, a3, a4, a5⟩ := h
  clear h1
  cases ao with
  | none =>
    have hc := a3 rfl
    subst hc
    have e : ess = [] := List.eq_nil_of_length_eq_zero (by omega)
    subst e
    have qn : ∀ w : World, (binOp .eql 82 (.slice none 0 0) (.slice none 0 0)).run Tryz.prog w = .ok (.bool true) w := fun w => Lib.run_eql_slice_nil w _ _ none 0 0 0 0 Tryz.underlying82
    clear a1 a2 a3 a4 a5 H1
    go_enter Tryz.func73, Tryz.ntmps73
    go_wp2
    go_ret
    exact ⟨_, rfl, OwR.nil _ _ _ _, Below.refl _ _⟩
  | some ad =>
    have H5 : Hid (∀ j u, ess.flatten[j]? = some u → w.cell? (ad.add j) = some u) := fun j u hj => by
      have hjl : j < ess.length * 5 := by rw [← flat_len a4]; exact (List.getElem?_eq_some_iff.1 hj).1
      obtain ⟨b, off, e, hc⟩ := a5 (by omega)
      cases e
      have e2 : j = j / 5 * 5 + j % 5 := by omega
      rw [e2, flat_get a4 (j / 5) (j % 5) (by omega) (by omega)] at hj
      have := hc (j / 5) (by omega) (j % 5) u hj
      rw [Addr.add_mid, show off + j = off + j / 5 * 5 + j % 5 by omega]
      exact this
    have H4 : Hid (∀ t, t < ess.length → (el ess t).length = 5) := a4
    have HO : Hid ((w.alloc (.cells #[] 114)).ownsRow w.heap.size 114 5 (.slice (some ⟨w.heap.size, 0, none⟩) 0 0) 0 []) := World.ownsRow_made w #[] 0 (Nat.le_refl _) (by simp [maxLen]) (by simp)
    have B0 : Below w.heap.size w (w.alloc (.cells #[] 114)) := (Below.refl _ _).alloc (Nat.le_refl _) _
    have H6 : Hid (∀ j u, ess.flatten[j]? = some u → (w.alloc (.cells #[] 114)).cell? (ad.add j) = some u) := fun j u hj => by
      have := H5.out j u hj
      rw [B0.cell (World.block_lt_of_cell? w _ this)]
      exact this
    have z0 := B0.size
    have qn : ∀ w : World, (binOp .eql 82 (.slice (some ad) ess.length cap) (.slice none 0 0)).run Tryz.prog w = .ok (.bool false) w := fun w => Lib.run_eql_slice_nil w _ _ (some ad) ess.length cap 0 0 Tryz.underlying82
    clear a3 a4 a5
    go_enter Tryz.func73, Tryz.ntmps73
    go_wp2_with (refine pushO_law _ rfl (.tmp 5) (.tmp 6) rfl w.heap.size z0 _ _ ess ad cap rfl rfl HO.out rfl H6.out H4.out H1.out hl ?_; intro v1 w1 O1 b1; have HO1 : Hid (OwR w.heap.size w1 v1 114 5 ess) := O1; have C1 : Below w.heap.size w w1 := B0.trans b1; clear O1 b1)
    go_ret
    exact ⟨_, rfl, HO1.out, C1⟩
theorem zero_op : (Tryz.prog.info? 114).map (fun i => (i.zero, i.size)) = some (some (.agg ([.int .i64 0, .int .i64 0, .int .i64 0, .slice none 0 0, .int .i64 0] : List Value).toArray), 5) := by kernel_rfl
theorem own_ro5 {B : Nat} {w : World} {v : Value} {tr : List Opn} {dv : Nat → Value} (h : OwR B w v 114 5 (opcs tr dv)) : ∃ ao cap g, v = .slice ao tr.length cap ∧ tr.length ≤ cap ∧ cap ≤ 9223372036854775807 ∧ (ao = none → cap = 0) ∧ (0 < tr.length → ao = some ⟨g, 0, none⟩ ∧ B ≤ g) ∧ Ro5 w g tr.length tr dv := by
  have hx := h
  rcases h.1.2 with ⟨rfl, hn⟩ | ⟨g, cap, cur, rfl, hg, hh, hc, hm, hs, ht⟩
  · rw [opcs_len] at hn
    exact ⟨none, 0, 0, by rw [hn], by omega, by omega, fun _ => rfl, fun hp => by omega, fun i hi => by omega⟩
  · rw [opcs_len] at hc ⊢
    refine ⟨some ⟨g, 0, none⟩, cap, g, rfl, hc, by simpa [maxLen] using hm, (by intro e; cases e), fun _ => ⟨rfl, hg⟩, fun i hi => ?_⟩
    obtain ⟨g', cap', e', _, hr⟩ := hx.row (by rw [opcs_len]; omega)
    cases e'
    have := hr i (by rw [opcs_len]; exact hi)
    rw [opcs_el _ _ _ hi] at this
    exact this
theorem trace_any (c : Nat) (tv : Value) (tr : List Opn) (w : World) (h : w.cell? ⟨c, 10, none⟩ = some tv) (hO : Opr w tv tr) (hl : tr.length ≤ 1000) (hd : ∀ i, i < tr.length → (gO tr i).2.2.2.1.length ≤ 140737488355328) :
    Calls Tryz.prog 50 #[.pointer (some ⟨c, 0, none⟩)] w fun e w' => ∃ v', e = .returned v' ∧ Opr w' v' tr ∧ Below w.heap.size w w' := by
  obtain ⟨dv, hr, hb⟩ := hO
  have SC : Hid (Calls Tryz.prog 73 #[tv] w fun e w' => ∃ v', e = .returned v' ∧ OwR w.heap.size w' v' 114 5 (opcs tr dv) ∧ Below w.heap.size w w') := cloneO_any tv _ w hr (opcs_one fun i hi => byt_one_cell (hb i hi)) (by rw [opcs_len]; exact hl)
  have HD : Hid (∀ i, i < tr.length → (gO tr i).2.2.2.1.length ≤ 140737488355328) := hd
  have HBY : Hid (∀ i, i < tr.length → Byt w (dv i) (gO tr i).2.2.2.1) := hb
  obtain ⟨ao0, cap0, rfl⟩ := hr.form
  rw [opcs_len] at SC h
  clear hr hb hd
  have t0 := tR
  go_enter Tryz.func50, Tryz.ntmps50
  go_wp2_with (have q0 := t0; go_at_call 73; refine SC.out.mono ?_; rintro e w1 ⟨v1, rfl, y1, B1⟩; obtain ⟨ao, cap, g, rfl, a1, a2, a3, a4, a5⟩ := own_ro5 y1; have HA : Hid ((ao = none → cap = 0) ∧ (0 < tr.length → ao = some ⟨g, 0, none⟩ ∧ w.heap.size ≤ g)) := ⟨a3, a4⟩; have HC1 : Hid (∃ dn, Ro5 w1 g tr.length tr dn ∧ ∀ i, i < tr.length → Byt w1 (dn i) (gO tr i).2.2.2.1) := ⟨dv, a5, fun i hi => (HBY.out i hi).below B1⟩; have HB1 : Hid (Below w.heap.size w w1) := B1; clear y1 a3 a4 a5 B1 t0 HBY SC h)
  go_loopw [15] (fun i wr => ∃ k : Nat, k ≤ tr.length ∧ i = .int .i64 k ∧ Hid (∃ dn, Ro5 wr g tr.length tr dn ∧ ∀ i, i < tr.length → Byt wr (dn i) (gO tr i).2.2.2.1) ∧ Hid (Below w.heap.size w wr)) (fun i _ => tr.length - (intOf i).toNat)
  case atStart => exact ⟨0, Nat.zero_le _, rfl, HC1, HB1⟩
  case round =>
    clear HC1 HB1
    obtain ⟨k, hk, rfl, HC, HB⟩ := hrel
    obtain ⟨wa, rfl⟩ : ∃ wx, wx = wr := ⟨_, rfl⟩
    have k0 : (0 : Int) ≤ (k : Int) := by omega
    by_cases hlt : k < tr.length
    · obtain ⟨dn, hR, hY⟩ := HC.out
      have HR : Hid (Ro5 wa g tr.length tr dn) := hR
      have HY : Hid (∀ i, i < tr.length → Byt wa (dn i) (gO tr i).2.2.2.1) := hY
      have k1 : (k : Int) < (tr.length : Int) := by omega
      obtain ⟨hao, hgB⟩ := HA.out.2 (by omega)
      have HG : Hid (w.heap.size ≤ g) := hgB
      subst hao
      have hf := (hR k hlt).1
      have hyk := hY k hlt
      have hdk := HD.out k hlt
      obtain ⟨⟨x0, x1, x2, xd, x4⟩, ho⟩ : ∃ o, gO tr k = o := ⟨_, rfl⟩
      have HE : Hid (gO tr k = (x0, x1, x2, xd, x4)) := ho
      rw [ho] at hf hyk hdk
      obtain ⟨mo, mc, hm⟩ := byt_form hyk
      have HM : Hid (dn k = .slice mo xd.length mc) := hm
      rw [hm] at hf hyk
      have HF : Hid (wa.rangeAt g (k * 5) [.int .i64 x0, .int .i64 x1, .int .i64 x2, .slice mo xd.length mc, .int .i64 x4]) := hf
      have lg : Hid (g < wa.heap.size) := range_lt hf (Nat.succ_pos _)
      have S : Hid (∀ w0, Below wa.heap.size wa w0 → Calls Tryz.prog 48 #[.slice mo xd.length mc] w0 fun e w' => ∃ v', e = .returned v' ∧ Bow w0.heap.size w' v' xd ∧ Below w0.heap.size w0 w') := fun w0 hb => bclone_any _ xd w0 (hyk.below hb) hdk
      clear hf hyk hdk ho hm hR hY HC hgB
      have f0 : wa.cell? ⟨g, k * 5, none⟩ = some (.int .i64 x0) := HF.out 0 _ rfl
      have f1 : wa.cell? ⟨g, k * 5 + 1, none⟩ = some (.int .i64 x1) := HF.out 1 _ rfl
      have f2 : wa.cell? ⟨g, k * 5 + 2, none⟩ = some (.int .i64 x2) := HF.out 2 _ rfl
      have f3 : wa.cell? ⟨g, k * 5 + 3, none⟩ = some (.slice mo xd.length mc) := HF.out 3 _ rfl
      have f4 : wa.cell? ⟨g, k * 5 + 4, none⟩ = some (.int .i64 x4) := HF.out 4 _ rfl
      have t2 := tR
      go_wp2_with (first
        | (have q5 := t5; (with_reducible refine pa.at_store ?_); refine store_law1 _ g (k * 5 + 3) (.slice ao6 xd.length cap6) rfl rfl (HT6.out.2 3 (by omega)).1 (HT6.out.2 3 (by omega)).2 one_bytes.2 rfl rfl ?_; intro w7 E7; clear t5)
        | (have q4 := t4; go_at_call 48; refine (S.out _ BA.out).mono ?_; rintro e w6 ⟨m6, rfl, y6, B6⟩; obtain ⟨ao6, cap6, rfl⟩ := byt_form y6.1
           have Y6 : Hid (Byt w6 (.slice ao6 xd.length cap6) xd) := y6.1
           have BA : Hid (Below wa.heap.size wa w6) := BA.out.trans (B6.mono BA.out.size)
           have HT6 : Hid (w6.rangeAt g (k * 5) (opc (gO tr k) (dn k)) ∧ w6.there g (k * 5) 5) := (HR.out.heap (BA.out.block g lg.out)) k hlt
           clear y6 t4 B6 v3; have t5 := tR)
        | (have q3 := t3; (with_reducible refine pa.at_store ?_); refine store_lawC _ [.int .i64 x0, .int .i64 x1, .int .i64 x2, .slice mo xd.length mc, .int .i64 x4] wa.heap.size 0 rfl rfl HV2.out.2 rowy_op.2 (by simp [Value.oneCell']) ?_; intro w3 E3 A3 T3 B3; have HV3 : Hid (Vr w3 wa.heap.size [.int .i64 x0, .int .i64 x1, .int .i64 x2, .slice mo xd.length mc, .int .i64 x4]) := ⟨A3, T3⟩; have BA : Hid (Below wa.heap.size wa w3) := BA.out.trans B3; have v3 := HV3.out.cell 3 _ rfl; clear E3 A3 T3 B3 t3; have t4 := tR)
        | (have q2 := t2; (with_reducible refine pa.at_alloc ?_); refine new_lawC _ _ zero_op ?_; intro w2 V2 B2 l2; have HV2 : Hid (Vr w2 wa.heap.size [.int .i64 0, .int .i64 0, .int .i64 0, .slice none 0 0, .int .i64 0]) := V2; have BA : Hid (Below wa.heap.size wa w2) := B2; clear V2 B2 l2 t2 f0 f1 f2 f3 f4; have t3 := tR))
      have HC7 : Hid (∃ dn, Ro5 w7 g tr.length tr dn ∧ ∀ i, i < tr.length → Byt w7 (dn i) (gO tr i).2.2.2.1) := by
        have c6 : w6.cell? ⟨g, k * 5 + 3, none⟩ = some (.slice mo xd.length mc) := by have := HT6.out.1 3 _ rfl; rw [HM.out] at this; exact this
        refine ⟨at1 dn k (.slice ao6 xd.length cap6), ?_, fun i hi => ?_⟩
        · rw [E7.out]; exact (HR.out.heap (BA.out.block g lg.out)).set hlt _
        · by_cases e : i = k
          · subst e
            rw [at1_same, HE.out, E7.out]
            exact byt_other Y6.out c6 (by intro x q; cases q)
          · rw [at1_other _ _ _ _ e, E7.out]
            exact byt_other ((HY.out i hi).below BA.out) c6 (by intro x q; cases q)
      have HB7 : Hid (Below w.heap.size w w7) := by
        have b6 : Below w.heap.size w w6 := HB.out.trans (BA.out.mono HB.out.size)
        refine b6.trans ?_
        rw [E7.out]
        exact (Below.refl w.heap.size _).grown (keep_set _ _ _ _) b6.size (fun j e => by have e := Option.some.inj e; have := HG.out; omega)
      go_roundw
      case rel => exact ⟨k + 1, by omega, by go_num, HC7, HB7⟩
      case measure => simp [intOf]; omega
    · have HR : Hid (Opr wa (.slice ao tr.length cap) tr) := by
        obtain ⟨dn, hR, hY⟩ := HC.out
        by_cases hp : 0 < tr.length
        · obtain ⟨rfl, -⟩ := HA.out.2 hp
          exact hR.opr hY a1 a2
        · have e : tr = [] := List.eq_nil_of_length_eq_zero (by omega)
          subst e
          exact ⟨dn, ⟨ao, cap, rfl, a1, a2, HA.out.1, fun t ht => by simp [opcs] at ht, fun q => by simp [opcs] at q⟩, fun i hi => by simp at hi⟩
      clear HC
      go_wp2
      go_ret
      exact ⟨_, rfl, HR.out, HB.out⟩
end Go.Proofs.YtakibiigcdgohaaGreatDoor.na
namespace Go.Proofs.YtakibiigcdgohaaGreatDoor.vb
open Go.RowKit Go.Proofs.YtakibiigcdgohaaGreatDoor.fa Go.Proofs.YtakibiigcdgohaaGreatDoor.he Go.Proofs.YtakibiigcdgohaaGreatDoor.pa Go.Proofs.YtakibiigcdgohaaGreatDoor.ck
set_option maxRecDepth 20000
theorem rt_nc {H : Ch} (h : ge.Rt H.g) : nc H.S ≤ H.P := by
  have := h.2.2.1
  unfold Ch.g at this
  rw [rec_nc] at this
  have e : gb [(H.N : Int), (H.P : Int), (H.S : Int), H.g3, H.g4, H.g5] 1 = (H.P : Int) := rfl
  rw [e] at this
  omega
section
variable {N P T : Nat} {pl : na.Pln}
theorem dst_4 {b : Bx} {k : Nat} (h : (dst P T pl b k).2 = 4) : na.off (dst P T pl b k).1.s = true := by
  unfold dst at h ⊢
  split at h
  · rename_i q; rw [if_pos q]; exact q
  · rename_i q
    rw [if_neg q]
    split at h
    · exact absurd (show (0 : Int) = 4 from h) (by decide)
    · rename_i hp; show na.crs (pl (na.ops b.s)) = true; rw [hp]; rfl
    · split at h
      · exact absurd (show (5 : Int) = 4 from h) (by decide)
      · rename_i hq; show na.crs (pl (na.ops b.s + 1)) = true; rw [hq]; rfl
      · exact absurd (show (5 : Int) = 4 from h) (by decide)
theorem prg_4 {s : na.St} {k p : Nat} {d : List Int} (h : (prg N P T pl s k p d).2 = 4) : na.off (prg N P T pl s k p d).1 = true := by
  unfold prg at h ⊢
  split at h
  · rename_i x hx
    have e : x = 4 := h
    subst e
    show na.off s = true
    unfold na.pno at hx
    split at hx
    · assumption
    · split at hx
      · exact absurd (Option.some.inj hx) (by decide)
      · split at hx
        · exact absurd (Option.some.inj hx) (by decide)
        · split at hx
          · exact absurd (Option.some.inj hx) (by decide)
          · cases hx
  · show na.crs (pl (na.ops s)) = true
    have h : na.ans (pl (na.ops s)) = 4 := h
    match hp : pl (na.ops s) with
    | none => rw [hp] at h; exact absurd (show (0 : Int) = 4 from h) (by decide)
    | some (true, _) => rfl
    | some (false, _) => rw [hp] at h; exact absurd (show (5 : Int) = 4 from h) (by decide)
theorem wri_4 {l : List (List Int)} {k : Nat} : ∀ (m : Nat) (s : na.St) (i : Nat), (wri N P T pl l k m s i).2 = 4 → na.off (wri N P T pl l k m s i).1 = true
  | 0, _, _, h => absurd (show (0 : Int) = 4 from h) (by decide)
  | m + 1, s, i, h => by
    unfold wri at h ⊢
    split at h
    · rename_i q; rw [if_pos q]; exact wri_4 m _ _ h
    · rename_i q; rw [if_neg q]; exact prg_4 h
theorem tr2_4 {b : Bx} {k : Nat} {l : List (List Int)} (h : (tr2 N P T pl b k l).2 = 4) : na.off (tr2 N P T pl b k l).1.s = true := by
  unfold tr2 at h ⊢
  simp only [] at h ⊢
  split at h
  · rename_i q; rw [if_pos q]; exact wri_4 _ _ _ h
  · rename_i q
    rw [if_neg q]
    split at h
    · rename_i q2; rw [if_pos q2]; exact dst_4 h
    · exact absurd (show (5 : Int) = 4 from h) (by decide)
theorem tr1_4 {b : Bx} {k : Nat} {l : List (List Int)} (h : (tr1 N P T pl b k l).2 = 4) : na.off (tr1 N P T pl b k l).1.s = true := by
  unfold tr1 at h ⊢
  split at h
  · rename_i q; rw [if_pos q]; exact tr2_4 h
  · rename_i q
    rw [if_neg q]
    split at h
    · rename_i q2; rw [if_pos q2]; exact tr2_4 h
    · rename_i q2; rw [if_neg q2]; exact dst_4 h
theorem oth_4 : ∀ (m : Nat) (b : Bx) (k : Nat), (oth P T pl m b k).2 = 4 → na.off (oth P T pl m b k).1.s = true
  | 0, _, _, h => absurd (show (0 : Int) = 4 from h) (by decide)
  | m + 1, b, k, h => by
    unfold oth at h ⊢
    split at h
    · rename_i q; rw [if_pos q]; exact oth_4 m _ _ h
    · rename_i q
      rw [if_neg q]
      split at h
      · rename_i q2; rw [if_pos q2]; exact dst_4 h
      · rename_i q2; rw [if_neg q2]; exact oth_4 m _ _ h
theorem cmi_4 {l : List (List Int)} {gen : Int} : ∀ (m : Nat) (b : Bx) (i : Nat), (cmi N P T pl l gen m b i).2 = 4 → na.off (cmi N P T pl l gen m b i).1.s = true
  | 0, _, _, h => absurd (show (15 : Int) = 4 from h) (by decide)
  | m + 1, b, i, h => by
    unfold cmi at h ⊢
    split at h
    · rename_i q; rw [if_pos q]; exact cmi_4 m _ _ h
    · rename_i q
      rw [if_neg q]
      split at h
      · rename_i q2; rw [if_pos q2]; exact tr1_4 h
      · rename_i q2
        rw [if_neg q2]
        split at h
        · rename_i q3; rw [if_pos q3]; exact oth_4 _ _ _ h
        · rename_i q3; rw [if_neg q3]; exact cmi_4 m _ _ h
end
theorem crash_out {S N P : Nat} {pl : na.Pln} {x0 x1 : List Int} {b : Bx} (s1 : 32 ≤ S) (s2 : S ≤ 4096) (hP : nc S ≤ P) (h4 : 4 ≤ N) (hl : x1.length = 624) (ha : AllB x1) (hI : Inv S N P b x0) (hg : b.gen = 7) (ho : na.off b.s = false)
    (hf : (cmt N P (S + 88) pl (cmt N P (S + 88) pl b (lps S x1 8) 8).1 (lps S x1 9) 9).1.hf = false) :
    ∃ rec g, Found S (cmt N P (S + 88) pl (cmt N P (S + 88) pl b (lps S x1 8) 8).1 (lps S x1 9) 9).1.s rec g ∧ (rec = x1 ∨ (rec = x0 ∧ (cmt N P (S + 88) pl b (lps S x1 8) 8).2 ≠ 0 ∧ (cmt N P (S + 88) pl (cmt N P (S + 88) pl b (lps S x1 8) 8).1 (lps S x1 9) 9).2 ≠ 0)) := by
  have n := nc_le s1 s2
  have c1 := cmi_c (pl := pl) (rec := x0) (xs := x1) (g := 8) s1 s2 hP h4 hl ha (by omega) 4 b (b.cur + 1).toNat (by omega) hI ho
  have e1 : cmt N P (S + 88) pl b (lps S x1 8) 8 = cmi N P (S + 88) pl (kps S x1 8 (List.replicate 8 255)) 8 4 b (b.cur + 1).toNat := by unfold cmt; rw [if_neg (by rw [ho]; exact Bool.false_ne_true)]; rfl
  rw [← e1] at c1
  have k4 := cmi_4 (N := N) (P := P) (T := S + 88) (pl := pl) (l := lps S x1 8) (gen := 8) 4 b (b.cur + 1).toNat
  have e1' : cmt N P (S + 88) pl b (lps S x1 8) 8 = cmi N P (S + 88) pl (lps S x1 8) 8 4 b (b.cur + 1).toNat := e1
  rw [← e1'] at k4
  generalize cmt N P (S + 88) pl b (lps S x1 8) 8 = r2 at c1 k4 hf ⊢
  clear e1 e1'
  cases o2 : na.off r2.1.s with
  | true =>
    have e2 : cmt N P (S + 88) pl r2.1 (lps S x1 9) 9 = (r2.1, 4) := by unfold cmt; rw [if_pos o2]
    rw [e2] at hf ⊢
    have c1 := c1 hf
    by_cases h : r2.2 = 4
    · rcases c1.1 h with z | z
      · exact ⟨_, _, z, .inr ⟨rfl, by rw [h]; decide, show (4 : Int) ≠ 0 by decide⟩⟩
      · exact ⟨_, _, z, .inl rfl⟩
    · by_cases h0 : r2.2 = 0
      · have := (c1.2.1 h0).2.2; rw [o2] at this; cases this
      · have := (c1.2.2 h h0).2.2; rw [o2] at this; cases this
  | false =>
    have e2 : cmt N P (S + 88) pl r2.1 (lps S x1 9) 9 = cmi N P (S + 88) pl (kps S x1 9 (List.replicate 8 255)) 9 4 r2.1 (r2.1.cur + 1).toNat := by unfold cmt; rw [if_neg (by rw [o2]; exact Bool.false_ne_true)]; rfl
    have hf2 : r2.1.hf = false := by rw [e2] at hf; exact cmi_hf _ _ _ hf
    have c1 := c1 hf2
    have h : r2.2 ≠ 4 := fun z => by have := k4 z; rw [o2] at this; cases this
    have c2 : ∀ rec, Inv S N P r2.1 rec → r2.1.gen < 9 → _ := fun rec hi hgl => cmi_c (pl := pl) (rec := rec) (xs := x1) (g := 9) s1 s2 hP h4 hl ha (by omega) 4 r2.1 (r2.1.cur + 1).toNat hgl hi o2
    rw [e2] at hf ⊢
    have fin : ∀ rec, Inv S N P r2.1 rec → r2.1.gen < 9 → (rec = x1 ∨ (rec = x0 ∧ r2.2 ≠ 0)) → ∃ rc g, Found S (cmi N P (S + 88) pl (kps S x1 9 (List.replicate 8 255)) 9 4 r2.1 (r2.1.cur + 1).toNat).1.s rc g ∧ (rc = x1 ∨ (rc = x0 ∧ r2.2 ≠ 0 ∧ (cmi N P (S + 88) pl (kps S x1 9 (List.replicate 8 255)) 9 4 r2.1 (r2.1.cur + 1).toNat).2 ≠ 0)) := fun rec hi hgl hr => by
      obtain ⟨d1, d2, d3⟩ := c2 rec hi hgl hf
      generalize cmi N P (S + 88) pl (kps S x1 9 (List.replicate 8 255)) 9 4 r2.1 (r2.1.cur + 1).toNat = r3 at d1 d2 d3 ⊢
      by_cases q4 : r3.2 = 4
      · rcases d1 q4 with z | z
        · exact ⟨_, _, z, hr.imp id fun ⟨u, v⟩ => ⟨u, v, by rw [q4]; decide⟩⟩
        · exact ⟨_, _, z, .inl rfl⟩
      · by_cases q0 : r3.2 = 0
        · exact ⟨_, _, inv_found n.1 hP (d2 q0).1, .inl rfl⟩
        · exact ⟨_, _, inv_found n.1 hP (d3 q4 q0).1, hr.imp id fun ⟨u, v⟩ => ⟨u, v, q0⟩⟩
    by_cases h0 : r2.2 = 0
    · have z := c1.2.1 h0
      exact fin x1 z.1 (by rw [z.2.1]; decide) (.inl rfl)
    · have z := c1.2.2 h h0
      exact fin x0 z.1 (by rw [z.2.1, hg]; decide) (.inr ⟨rfl, h0⟩)
section
variable {H : Ch} {M : Nat → Bool} {w : World} {s : na.St} {l : List na.Opn}
theorem power_cs (h : Cs H M w s l) (b : Bool) : Calls Tryz.prog 14 #[.pointer (some ⟨H.c, 0, none⟩), .bool b] w fun e w' => (∃ v, e = .returned v) ∧ Cs H M w' (na.pwr s b) l ∧ na.Frm M w w' := by
  obtain ⟨⟨tv, z1⟩, z2, z3, z4, z5⟩ := h
  refine (na.power_any z1 b).mono ?_
  rintro e w' ⟨h1, rfl⟩
  have hf : na.Frm M w (w.setCell ⟨H.c, 7, none⟩ (.bool b)) := na.Frm.set z1.2.1.1.1 7 (.bool b)
  refine ⟨h1, ⟨⟨tv, ?_⟩, fun k q => Nat.lt_of_lt_of_le (z2 k q) hf.size, na.pwr_wf z3 b, na.lsp_pwr z4 b, z5⟩, hf⟩
  have z := z1.on b
  have e : na.raw H.N H.P (na.pwr s b) l = na.mkX (na.xi (na.raw H.N H.P s l)) (na.xp (na.raw H.N H.P s l)) (na.xe (na.raw H.N H.P s l)) (na.xs (na.raw H.N H.P s l)) b (na.xt (na.raw H.N H.P s l)) := by cases b <;> rfl
  rw [e]
  exact z
theorem trace_cs (h : Cs H M w s l) (hl : l.length ≤ 1000) : Calls Tryz.prog 50 #[.pointer (some ⟨H.c, 0, none⟩)] w fun e w' => ∃ v', e = .returned v' ∧ na.Opr w' v' l ∧ Below w.heap.size w w' := by
  obtain ⟨⟨tv, z⟩, -, -, -, -, hd⟩ := h
  obtain ⟨dvs, tO, tb, -⟩ := z.2.2.2.2.2.2.2.1
  refine na.trace_any H.c tv l w z.cells.2.2.2.2 ⟨dvs, tO.rws, fun i hi => na.hid_byt (tb i hi)⟩ hl fun i hi => ?_
  have : na.gO l i ∈ l := by unfold na.gO; rw [List.getD_eq_getElem?_getD, List.getElem?_eq_getElem hi]; exact List.getElem_mem hi
  have := hd _ this
  omega
theorem hfl_take {l : List na.Opn} {k : Nat} (hk : k < l.length) : hfl (l.take (k + 1)) = (hfl (l.take k) || decide ((na.gO l k).1 = 3 ∧ (na.gO l k).2.2.2.2 ≠ 0)) := by
  rw [← hfl_snoc]
  congr 1
  rw [List.take_succ_eq_append_getElem hk]
  congr 2
  unfold na.gO
  rw [List.getD_eq_getElem?_getD, List.getElem?_eq_getElem hk]
  rfl
theorem hfl_more {l : List na.Opn} {k : Nat} (hk : k < l.length) (h : (na.gO l k).1 = 3 ∧ (na.gO l k).2.2.2.2 ≠ 0) : hfl l = true := by
  unfold hfl
  rw [List.any_eq_true]
  refine ⟨na.gO l k, ?_, decide_eq_true h⟩
  unfold na.gO
  rw [List.getD_eq_getElem?_getD, List.getElem?_eq_getElem hk]
  exact List.getElem_mem hk
theorem half_any (h : Cs H M w s l) (hl : l.length ≤ 1000) : Calls Tryz.prog 24 #[.pointer (some ⟨H.c, 0, none⟩)] w fun e w' => e = .returned (.bool (hfl l)) ∧ Below w.heap.size w w' := by
  have ST : Hid (∀ w0, w0 = w → Calls Tryz.prog 50 #[.pointer (some ⟨H.c, 0, none⟩)] w0 fun e w' => ∃ v', e = .returned v' ∧ na.Opr w' v' l ∧ Below w.heap.size w w') := fun w0 e => by subst e; exact trace_cs h hl
  obtain ⟨n, en⟩ : ∃ n, l.length = n := ⟨_, rfl⟩
  have EN : Hid (l.length = n) := en
  have hn : n ≤ 1000 := by omega
  clear h hl en
  have t0 := tR
  go_enter Tryz.func24, Tryz.ntmps24
  go_wp2_with (first
    | (have q0 := t0; go_at_call 50; refine (ST.out w rfl).mono ?_; rintro e9 w1 ⟨v', rfl, o9, B9⟩; obtain ⟨dv, ⟨ao, cap, rfl, a1, a2, a3, a4, a5⟩, -⟩ := o9; rw [na.opcs_len, EN.out] at a1 a5 ⊢; have HA : Hid (0 < n → ∃ b off, ao = some ⟨b, off, none⟩ ∧ ∀ t, t < n → w1.rangeAt b (off + t * 5) (na.el (na.opcs l dv) t)) := a5; have BB : Hid (Below w.heap.size w w1) := B9; clear a1 a2 a3 a4 a5 B9 t0; have t1 := tR))
  go_loop [4] (fun i => ∃ k : Nat, k ≤ n ∧ i = .int .i64 (k : Int) ∧ Hid (hfl (l.take k) = false)) (fun i => n - (intOf i).toNat)
  case atStart => exact ⟨0, Nat.zero_le _, rfl, rfl⟩
  case round =>
    obtain ⟨k, hk, rfl, HF⟩ := hrel
    by_cases hlt : k < n
    · have lk1 : (k : Int) < (n : Int) := by omega
      have lk0 : (0 : Int) ≤ (k : Int) := by omega
      have lk2 : IntKind.i64.wrap ((k : Int) + 1) = (k : Int) + 1 := by rw [IntKind.wrap_i64]; omega
      obtain ⟨b, off, rfl, hr⟩ := HA.out (by omega)
      have hkl : k < l.length := by rw [EN.out]; exact hlt
      have z := hr k hlt
      rw [na.opcs_el l dv k hkl] at z
      have c0 : w1.cell? ⟨b, off + k * 5, none⟩ = some (.int .i64 (na.gO l k).1) := z 0 _ rfl
      have c4 : w1.cell? ⟨b, off + k * 5 + 4, none⟩ = some (.int .i64 (na.gO l k).2.2.2.2) := z 4 _ rfl
      have HM : Hid ((na.gO l k).1 = 3 ∧ (na.gO l k).2.2.2.2 ≠ 0 → hfl l = true) := hfl_more hkl
      have HN : Hid (hfl (l.take (k + 1)) = (hfl (l.take k) || decide ((na.gO l k).1 = 3 ∧ (na.gO l k).2.2.2.2 ≠ 0))) := hfl_take hkl
      clear hr z hkl
      generalize (na.gO l k).1 = kd at c0 HM HN
      generalize (na.gO l k).2.2.2.2 = er at c4 HM HN
      by_cases h3 : kd = 3
      · subst h3
        by_cases h0 : er = 0
        · subst h0
          have HN : Hid (hfl (l.take (k + 1)) = false) := by show _ = _; rw [HN.out, HF.out]; rfl
          clear HM
          go_wp2
          go_round
          case rel => exact ⟨k + 1, by omega, by go_num, HN⟩
          case measure => simp [intOf]; omega
        · have n0 : (er != 0) = true := bne_iff_ne.2 h0
          have HT : Hid (hfl l = true) := HM.out ⟨rfl, h0⟩
          clear HM HN h0
          go_wp2
          go_ret
          exact ⟨congrArg (fun z => Ending.returned (.bool z)) HT.out.symm, BB.out⟩
      · have n3 : (kd == 3) = false := beq_eq_false_iff_ne.2 h3
        have HN : Hid (hfl (l.take (k + 1)) = false) := by show _ = _; rw [HN.out, HF.out, decide_eq_false (fun z => h3 z.1)]; rfl
        clear HM h3
        go_wp2
        go_round
        case rel => exact ⟨k + 1, by omega, by go_num, HN⟩
        case measure => simp [intOf]; omega
    · have ek : k = n := by omega
      subst ek
      have HT : Hid (hfl l = false) := by have := HF.out; rw [List.take_of_length_le (by rw [EN.out]; exact Nat.le_refl _)] at this; exact this
      go_wp2
      go_ret
      exact ⟨congrArg (fun z => Ending.returned (.bool z)) HT.out.symm, BB.out⟩
end
end Go.Proofs.YtakibiigcdgohaaGreatDoor.vb
