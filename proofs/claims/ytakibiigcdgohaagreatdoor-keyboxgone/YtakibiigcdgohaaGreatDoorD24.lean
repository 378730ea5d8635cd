/- Parts of the proof: what KeyboxGone reaches. No claim of its own. -/
import Derived.WalkKit
import Derived.Deep.QuietTactic
import Derived.Deep.RegionHeld3
import Derived.Deep.WholeRow
import Derived.Deep.MidRow
import Derived.Laws.StructEq
import Derived.Lib.AppendZeros
import Derived.Lib.SliceRun
import Derived.Lib.MakeNoZero
import Derived.Deep.DeepCutAuto
import Derived.Deep.Slices
import Derived.ArgAppend
import Derived.WalkSmall
import Derived.ProofKit
import Derived.OpenShut
import Derived.BigQuiet
import Derived.Laws.AppendOwnNone
import Derived.Deep.LoopGhost
import Derived.Deep.DeepHandedRow
import Derived.Lib.LaidTab
import Derived.Deep.Matrix
import Derived.Laws.Tables
import Derived.Test.YtakibiigcdgohaaGreatDoorD00
import Derived.Test.YtakibiigcdgohaaGreatDoorD01
import Derived.Test.YtakibiigcdgohaaGreatDoorD02
import Derived.Test.YtakibiigcdgohaaGreatDoorD03
import Derived.Test.YtakibiigcdgohaaGreatDoorD04
import Derived.Test.YtakibiigcdgohaaGreatDoorD05
import Derived.Test.YtakibiigcdgohaaGreatDoorD06
import Derived.Test.YtakibiigcdgohaaGreatDoorD07
import Derived.Test.YtakibiigcdgohaaGreatDoorD08
import Derived.Test.YtakibiigcdgohaaGreatDoorD09
import Derived.Test.YtakibiigcdgohaaGreatDoorD10
import Derived.Test.YtakibiigcdgohaaGreatDoorD11
import Derived.Test.YtakibiigcdgohaaGreatDoorD12
import Derived.Test.YtakibiigcdgohaaGreatDoorD13
import Derived.Test.YtakibiigcdgohaaGreatDoorD14
import Derived.Test.YtakibiigcdgohaaGreatDoorD15
import Derived.Test.YtakibiigcdgohaaGreatDoorD16
import Derived.Test.YtakibiigcdgohaaGreatDoorD17
import Derived.Test.YtakibiigcdgohaaGreatDoorD18
import Derived.Test.YtakibiigcdgohaaGreatDoorD19
import Derived.Test.YtakibiigcdgohaaGreatDoorD20
import Derived.Test.YtakibiigcdgohaaGreatDoorD21
import Derived.Test.YtakibiigcdgohaaGreatDoorD22
import Derived.Test.YtakibiigcdgohaaGreatDoorD23
set_option maxHeartbeats 8000000
namespace Go.Proofs.YtakibiigcdgohaaGreatDoor.na
open Go.RowKit Go.Proofs.YtakibiigcdgohaaGreatDoor.fa
set_option maxRecDepth 20000
theorem raw_newV (N P S : Nat) : raw N P (new S) [] = raw0 N P S := by
  have h1 : ∀ n, jnd n (fun _ => List.replicate S (255 : Int)) = List.replicate (n * S) 255 := fun n => by
    induction n with
    | zero => simp [jnd]
    | succ n ih => rw [jnd_succ, ih, Nat.succ_mul, ← List.replicate_append_replicate]
  have h2 : ∀ n, ((List.range n).flatMap fun _ => List.replicate (P * S) (255 : Int)) = List.replicate (n * (P * S)) 255 := fun n => by
    induction n with
    | zero => simp
    | succ n ih => rw [List.range_succ, List.flatMap_append, ih, Nat.succ_mul, ← List.replicate_append_replicate]; simp
  have h3 : img N P (new S) = List.replicate (N * (P * S)) 255 := by
    show ((List.range N).flatMap fun _ => jnd P (fun _ => List.replicate S (255 : Int))) = _
    rw [h1 P, h2 N]
  have h4 : (List.range P).map (fun _ => (0 : Int)) = List.replicate P 0 := by
    rw [List.map_const']
    simp
  unfold raw raw0
  rw [h3]
  show mkX _ (fun b => (List.range P).map (fun _ => (0 : Int))) _ _ _ _ = _
  rw [h4]
  rfl
end Go.Proofs.YtakibiigcdgohaaGreatDoor.na
namespace Go.Proofs.YtakibiigcdgohaaGreatDoor.vb
open Go.RowKit Go.Proofs.YtakibiigcdgohaaGreatDoor.fa Go.Proofs.YtakibiigcdgohaaGreatDoor.he Go.Proofs.YtakibiigcdgohaaGreatDoor.pa Go.Proofs.YtakibiigcdgohaaGreatDoor.ck
def rb (sd : Int) (k : Nat) : Int := bits BinOp.xor IntKind.u8 ((k : Int) % 256 * 7 % 256) sd
def rcd (sd : Int) (n : Nat) : List Int := (List.range n).map (rb sd)
theorem rcd_len (sd : Int) (n : Nat) : (rcd sd n).length = n := by simp [rcd]
theorem rcd_succ (sd : Int) (n : Nat) : rcd sd (n + 1) = rcd sd n ++ [rb sd n] := by simp [rcd, List.range_succ]
theorem rb_byte {sd : Int} (hs : 0 ≤ sd ∧ sd ≤ 255) (k : Nat) : 0 ≤ rb sd k ∧ rb sd k ≤ 255 := by
  unfold rb
  rw [xr_of _ _ (by omega) hs]
  exact xr_bd _ _ (by omega) hs
theorem rcd_all {sd : Int} (hs : 0 ≤ sd ∧ sd ≤ 255) (n : Nat) : AllB (rcd sd n) := allB_mem fun x hx => by
  obtain ⟨k, -, rfl⟩ := List.mem_map.1 hx
  exact rb_byte hs k
theorem record_own (sd : Int) (w : World) :
    Calls Tryz.prog 17 #[.int .u8 sd] w fun e w' => ∃ v, e = .returned v ∧ Own w.heap.size w' v (rcd sd 624) ∧ Below w.heap.size w w' := by
  go_enter Tryz.func17, Tryz.ntmps17
  go_wp2
  go_loopw [3, 4] (fun v i wr => ∃ (k : Nat) (v0 : Value), k ≤ 624 ∧ i = .int .i64 (k : Int) ∧ v = v0 ∧ Hid (Own w.heap.size wr v0 (rcd sd k)) ∧ Hid (Below w.heap.size w wr)) (fun _ i _ => 624 - (intOf i).toNat)
  case atStart => exact ⟨0, _, by omega, rfl, rfl, Own.empty w (Nat.le_refl _), (Below.refl _ _).alloc (Nat.le_refl _) _⟩
  case round =>
    obtain ⟨k, _, hk, rfl, rfl, HO, HB⟩ := hrel
    by_cases hlt : k < 624
    · have lk1 : (k : Int) < 624 := by omega
      have lk2 : IntKind.i64.wrap ((k : Int) + 1) = (k : Int) + 1 := by rw [IntKind.wrap_i64]; omega
      have HK : Hid (k < 624) := hlt
      have t0 := tR
      go_wp2_with (first
        | (have q0 := t0; at_builtin; refine push_law wr rfl (.tmp 10) (.tmp 16) rfl w.heap.size HB.out.size u3 (rcd sd k) (rb sd k) rfl rfl HO.out (by rw [rcd_len]; have := HK.out; omega) ?_; intro v1 w1 o9 b9; have HO1 : Hid (Own w.heap.size w1 v1 (rcd sd (k + 1))) := (by show Own _ _ _ _; rw [rcd_succ]; exact o9); have HB1 : Hid (Below w.heap.size w w1) := HB.out.trans b9; clear o9 b9 t0; have t1 := tR))
      go_roundw
      case rel => exact ⟨k + 1, v1, by omega, by go_num, rfl, HO1, HB1⟩
      case measure => simp [intOf]; omega
    · have ek : k = 624 := by omega
      subst ek
      go_wp2
      go_ret
      exact ⟨_, rfl, HO.out, HB.out⟩
theorem record_any (sd : Int) (hs : 0 ≤ sd ∧ sd ≤ 255) (w : World) :
    Calls Tryz.prog 17 #[.int .u8 sd] w fun e w' => ∃ v, e = .returned v ∧ Byt w' v (rcd sd 624) ∧ Below w.heap.size w w' :=
  (record_own sd w).mono fun _ _ ⟨v, h1, h2, h3⟩ => ⟨v, h1, h2.byt (rcd_all hs _), h3⟩
theorem new_cs (N P S : Nat) (g3 g4 g5 : Int) (hs : na.Shp [(N : Int), (P : Int), (S : Int), g3, g4, g5] N P (S + 88)) (v : Value) (fs : List (Int × Bool × Value)) (ms : Nat → List Int) (w : World) (h : Fls w v fs) (hm : Mks w fs ms) (hl : fs.length ≤ 64) (hk : Okp fs ms fs.length) :
    Calls Tryz.prog 9 #[.agg (ints .i64 [(N : Int), (P : Int), (S : Int), g3, g4, g5]), v] w fun e w' => ∃ H M, e = .returned (.tuple #[.pointer (some ⟨H.c, 0, none⟩), .int .i64 0]) ∧ Cs H M w' (na.new (S + 88)) [] ∧ (∀ k, M k = true → w.heap.size ≤ k) ∧ Below w.heap.size w w' ∧ H.N = N ∧ H.P = P ∧ H.S = S ∧ H.g3 = g3 ∧ H.g4 = g4 ∧ H.g5 = g5 ∧ H.pl = na.plnOf fs ms := by
  refine (na.new_yes (S : Int) g3 g4 g5 N P (S + 88) hs v fs ms w h hm hl hk).mono ?_
  rintro e w' ⟨M, c, r, d, q, pv, tv, h1, h2, h3, h4, h5⟩
  refine ⟨⟨c, r, d, q, pv, N, P, S, g3, g4, g5, na.plnOf fs ms⟩, M, h1, ⟨⟨tv, ?_⟩, h3, na.new_wf N P (S + 88), na.lsp_new N P (S + 88), rfl, fun _ z => absurd z List.not_mem_nil⟩, h4, h5, rfl, rfl, rfl, rfl, rfl, rfl, rfl⟩
  rw [na.raw_newV]
  exact h2
theorem new_kc {S P : Nat} {at' gen : Int} {rec : List Int} (h1 : 1 ≤ nc S) (hP : nc S ≤ P) (h : Kc S ((List.range 4).map (bpg P (na.new (S + 88)))) 4 at' gen rec) : at' = -1 ∧ gen = 0 ∧ rec = [] := by
  rcases h with ⟨a1, a2, a3, -⟩ | ⟨i, hi, -, hk, -⟩
  · exact ⟨a1, a2, a3⟩
  · exfalso
    have e : ((List.range 4).map (bpg P (na.new (S + 88)))).getD i [] = bpg P (na.new (S + 88)) i := by simp [List.getD, hi]
    rw [e] at hk
    have z := (hd_bpg (k := i) h1 hP).2.2.2 hk
    exact blank_open S z.2
end Go.Proofs.YtakibiigcdgohaaGreatDoor.vb
namespace Go.Proofs.YtakibiigcdgohaaGreatDoor.vb
open Go.RowKit Go.Proofs.YtakibiigcdgohaaGreatDoor.fa Go.Proofs.YtakibiigcdgohaaGreatDoor.he Go.Proofs.YtakibiigcdgohaaGreatDoor.pa Go.Proofs.YtakibiigcdgohaaGreatDoor.ck
set_option maxRecDepth 20000
theorem kc_unique {S k : Nat} {bs : List (List (List Int))} {a g a' g' : Int} {r r' : List Int} (h : Kc S bs k a g r) (h' : Kc S bs k a' g' r') : a = a' ∧ g = g' ∧ r = r' := by
  rcases h with ⟨x1, x2, x3, x4⟩ | ⟨i, i1, i2, i3, i4, i5, i6, i7⟩
  · rcases h' with ⟨y1, y2, y3, -⟩ | ⟨j, j1, -, j3, -⟩
    · exact ⟨x1.trans y1.symm, x2.trans y2.symm, x3.trans y3.symm⟩
    · exact absurd j3 (x4 j j1)
  · rcases h' with ⟨-, -, -, y4⟩ | ⟨j, j1, j2, j3, j4, j5, j6, j7⟩
    · exact absurd i3 (y4 i i1)
    · have e : i = j := by
        rcases Nat.lt_trichotomy i j with q | q | q
        · have z1 := j7 i q i3
          have z2 := i6 j j1 j3
          omega
        · exact q
        · have z1 := i7 j q j3
          have z2 := j6 i i1 i3
          omega
      subst e
      exact ⟨i2.trans j2.symm, i4.trans j4.symm, i5.trans j5.symm⟩
section
variable {H : Ch} {M : Nat → Bool} {w : World} {B : Nat} {l : List na.Opn} {s : na.St}
theorem commit_first (h : Bs H M w B (b0 (H.S + 88)) l) (hP : nc H.S ≤ H.P) (hp : ∀ j, j < nc H.S + 5 → H.pl j = none) (v : Value) (xs : List Int) (hy : Byt w v xs) (hl : xs.length = 624) (gen : Int) (hg : 0 ≤ gen ∧ gen ≤ 18446744073709551615) (hT : Tab w) :
    Calls Tryz.prog 18 #[.pointer (some ⟨B, 0, none⟩), v, .int .u64 gen] w fun e w' => ∃ M' l' b1, e = .returned (.int .i64 0) ∧ Bs H M' w' B b1 l' ∧ Fr M w B M' w' ∧ Inv H.S H.N H.P b1 xs ∧ b1.gen = gen ∧ b1.cur = 0 ∧ na.ops b1.s = nc H.S + 5 ∧ b1.hf = false ∧ na.off b1.s = false := by
  have s12 := rt_sec h.1.rt
  have hN := h.num
  obtain ⟨c1, c2, c3, c4, c5, c6, c7⟩ := cmt_first (N := H.N) (P := H.P) (pl := H.pl) s12.1 s12.2 hP (by omega) hl hy.all hg hp
  refine (commit_any h ⟨0, by omega, rfl⟩ v xs hy hl gen hg hT (show (0 : Nat) ≤ 900000 by omega)).mono ?_
  rintro e w' ⟨M', l', h1, h2, h3⟩
  exact ⟨M', l', _, h1.trans (congrArg (fun z => Ending.returned (.int .i64 z)) c1), h2, h3, c2, c3, c7, c4, c5, c6⟩
theorem open_found (h : Cs H M w s l) (ho : na.off s = false) (hT : Tab w) (hP : nc H.S ≤ H.P) (rec : List Int) (g : Int) (hF : Found H.S s rec g) :
    Calls Tryz.prog 10 #[.pointer (some ⟨H.c, 0, none⟩)] w fun e w' => ∃ B c ro rn rc, e = .returned (.tuple #[.pointer (some ⟨B, 0, none⟩), .slice ro rn rc, .int .i64 0]) ∧ Byt w' (.slice ro rn rc) rec ∧ Bs H M w' B (bx0 s c g (hfl l)) l ∧ w.heap.size ≤ B ∧ Below w.heap.size w w' := by
  have s12 := rt_sec h.rt
  obtain ⟨c, -, hk⟩ := found_kc (nc_le s12.1 s12.2).1 hP hF
  refine (open_any h ho hT).mono ?_
  rintro e w' ⟨B, a', g', r', ro, rn, rc, x, h1, h2, h3, h4, h5, h6, h7, h8⟩
  obtain ⟨rfl, rfl, rfl⟩ := kc_unique h4 hk
  rw [h6 (by omega)] at h1
  exact ⟨B, _, ro, rn, rc, h1, h3, h2, h7, h8⟩
theorem open_new (h : Cs H M w (na.new (H.S + 88)) []) (hT : Tab w) (hP : nc H.S ≤ H.P) :
    Calls Tryz.prog 10 #[.pointer (some ⟨H.c, 0, none⟩)] w fun e w' => ∃ B ro rc, e = .returned (.tuple #[.pointer (some ⟨B, 0, none⟩), .slice ro 0 rc, .int .i64 10]) ∧ Bs H M w' B (b0 (H.S + 88)) [] ∧ w.heap.size ≤ B ∧ Below w.heap.size w w' := by
  have s12 := rt_sec h.rt
  refine (open_any h rfl hT).mono ?_
  rintro e w' ⟨B, a', g', r', ro, rn, rc, x, h1, h2, h3, h4, h5, h6, h7, h8⟩
  obtain ⟨rfl, rfl, rfl⟩ := new_kc (nc_le s12.1 s12.2).1 hP h4
  obtain ⟨ao, cap, e1⟩ := byt_form h3 (n := 0) rfl
  injection e1 with e1 e2 e3
  subst e1 e2 e3
  rw [h5 rfl] at h1
  exact ⟨B, _, _, h1, h2, h7, h8⟩
end
theorem ops_cs {H : Ch} {M : Nat → Bool} {w : World} {l : List na.Opn} {s : na.St} (h : Cs H M w s l) : Calls Tryz.prog 23 #[.pointer (some ⟨H.c, 0, none⟩)] w fun e w' => e = .returned (.int .i64 (na.ops s : Int)) ∧ w' = w := by
  obtain ⟨⟨tv, z⟩, -, -, -, hl, -⟩ := h
  obtain ⟨dvs, tO, -, -⟩ := z.2.2.2.2.2.2.2.1
  obtain ⟨tq, tc, e⟩ := tO.rws.form
  rw [na.opcs_len] at e
  have := na.ops_any H.c tq _ tc w (by rw [← e]; exact z.cells.2.2.2.2)
  rw [show (na.xt (na.raw H.N H.P s l)).length = na.ops s from hl] at this
  exact this
theorem new_awake (w : World) : Calls Tryz.prog 9 #[.agg (ints .i64 [7, 10, 64, 0, 1, 1]), .slice none 0 0] w fun e w' => ∃ H M, e = .returned (.tuple #[.pointer (some ⟨H.c, 0, none⟩), .int .i64 0]) ∧ Cs H M w' (na.new (H.S + 88)) [] ∧ (∀ k, M k = true → w.heap.size ≤ k) ∧ Below w.heap.size w w' ∧ nc H.S ≤ H.P ∧ nc H.S = 10 ∧ (∀ j, H.pl j = none) ∧ H.g = [7, 10, 64, 0, 1, 1] ∧ H.S = 64 := by
  have sh : na.Shp [((7 : Nat) : Int), ((10 : Nat) : Int), ((64 : Nat) : Int), 0, 1, 1] 7 10 (64 + 88) := ⟨rfl, ⟨⟨by decide, by decide, by decide, by decide, by decide, by decide⟩, by decide, by decide, by decide⟩, rfl, rfl, rfl⟩
  refine Calls.mono (new_cs 7 10 64 0 1 1 sh (.slice none 0 0) [] (fun _ => []) w ⟨none, 0, rfl, by simp, by simp, fun _ => rfl, fun h => by simp at h⟩ (fun t ht => by simp at ht) (by simp) (fun t ht => by simp at ht)) ?_
  rintro e w' ⟨H, M, h1, h2, h3, h4, n1, n2, n3, n4, n5, n6, n7⟩
  refine ⟨H, M, h1, by rw [n3]; exact h2, h3, h4, by rw [n3, n2]; decide, by rw [n3]; decide, fun j => by rw [n7]; rfl, ?_, n3⟩
  unfold Ch.g
  rw [n1, n2, n3, n4, n5, n6]
  rfl
theorem tab_up {B0 : Nat} {w w' : World} (h : Tab w) (hb : Below B0 w w') (h0 : w.heap.size ≤ B0) : Tab w' := h.below (hb.mono h0)
theorem awake_any (w : World) (hT : Tab w) : Calls Tryz.prog 8 #[] w fun e w' => e = .returned (.bool true) ∧ Below w.heap.size w w' := by
  have HT : Hid (Tab w) := hT
  have SN : Hid (∀ w0, Calls Tryz.prog 9 #[.agg #[.int .i64 7, .int .i64 10, .int .i64 64, .int .i64 0, .int .i64 1, .int .i64 1], .slice none 0 0] w0 fun e w' => ∃ H M, e = .returned (.tuple #[.pointer (some ⟨H.c, 0, none⟩), .int .i64 0]) ∧ Cs H M w' (na.new (H.S + 88)) [] ∧ (∀ k, M k = true → w0.heap.size ≤ k) ∧ Below w0.heap.size w0 w' ∧ nc H.S ≤ H.P ∧ nc H.S = 10 ∧ (∀ j, H.pl j = none) ∧ H.g = [7, 10, 64, 0, 1, 1] ∧ H.S = 64) := fun w0 => new_awake w0
  have SR : Hid (∀ w0, Calls Tryz.prog 17 #[.int .u8 1] w0 fun e w' => ∃ v, e = .returned v ∧ Byt w' v (rcd 1 624) ∧ Below w0.heap.size w0 w') := fun w0 => record_any 1 (by omega) w0
  clear hT
  have t0 := tR
  go_enter Tryz.func8, Tryz.ntmps8
  go_wp2_with (first
    | (have q8 := t8; go_at_call 15; refine (he.same_yes _ _ _ (rcd 1 624) HY2.out HY3.out).mono ?_; rintro e9 w9 ⟨rfl, B9⟩; have BB : Hid (Below w.heap.size w w9) := BB.out.trans (B9.mono BB.out.size); clear B9 t8; have t9 := tR)
    | (have q7 := t7; go_at_call 17; refine (SR.out w5).mono ?_; rintro e9 w6 ⟨rv2, rfl, y9, B9⟩; have HY3 : Hid (Byt w6 rv2 (rcd 1 624)) := y9; have HY2 : Hid (Byt w6 (.slice ro rn rc) (rcd 1 624)) := HY2.out.below B9; have BB : Hid (Below w.heap.size w w6) := BB.out.trans (B9.mono BB.out.size); clear y9 B9 t7; have t8 := tR)
    | (have q6 := t6; go_at_call 28; refine (gen_bs HV.out).mono ?_; rintro e9 w9 ⟨rfl, hw⟩; obtain rfl := hw.symm; rw [HG.out.1]; clear t6; have t7 := tR)
    | (have q5 := t5; go_at_call 26; refine (current_bs HV.out).mono ?_; rintro e9 w9 ⟨rfl, hw⟩; obtain rfl := hw.symm; rw [HG.out.2]; clear t5; have t6 := tR)
    | (have q4 := t4; go_at_call 10; refine (open_found HB.out.1 HOF.out (tab_up HT.out BB.out (Nat.le_refl _)) HNP.out.1 (rcd 1 624) b1.gen (inv_found HNP.out.2 HNP.out.1 HI.out)).mono ?_; rintro e9 w5 ⟨B5, c5, ro, rn, rc, rfl, y9, -, -, B9⟩; have HY2 : Hid (Byt w5 (.slice ro rn rc) (rcd 1 624)) := y9; have HV : Hid (Vr w5 B (bxc H.c b1)) := (HB.out.below B9).2.2.1; have BB : Hid (Below w.heap.size w w5) := BB.out.trans (B9.mono BB.out.size); clear y9 B9 t4; have t5 := tR)
    | (have q3 := t3; go_at_call 18; refine (commit_first HB.out HNP.out.1 (fun j _ => HPL.out j) rv (rcd 1 624) HY.out (rcd_len _ _) 4 (by omega) (tab_up HT.out BB.out (Nat.le_refl _))).mono ?_; rintro e9 w4 ⟨M4, l4, b1, rfl, b9, f9, i9, g9, c9, -, -, o9⟩; have HB : Hid (Bs H M4 w4 B b1 l4) := b9; have HI : Hid (Inv H.S H.N H.P b1 (rcd 1 624)) := i9; have HG : Hid (b1.gen = 4 ∧ b1.cur = 0) := ⟨g9, c9⟩; have HOF : Hid (na.off b1.s = false) := o9; have BB : Hid (Below w.heap.size w w4) := BB.out.trans (f9.below BB.out.size HM.out HLB.out); clear b9 f9 i9 g9 c9 o9 t3; have t4 := tR)
    | (have q2 := t2; go_at_call 17; refine (SR.out w2).mono ?_; rintro e9 w3 ⟨rv, rfl, y9, B9⟩; have HY : Hid (Byt w3 rv (rcd 1 624)) := y9; have HB : Hid (Bs H M w3 B (b0 (H.S + 88)) []) := HB.out.below B9; have BB : Hid (Below w.heap.size w w3) := BB.out.trans (B9.mono BB.out.size); clear y9 B9 t2; have t3 := tR)
    | (have q1 := t1; go_at_call 10; refine (open_new HC.out (tab_up HT.out BB.out (Nat.le_refl _)) HNP.out.1).mono ?_; rintro e9 w2 ⟨B, zo, zc, rfl, b9, lb9, B9⟩; have HB : Hid (Bs H M w2 B (b0 (H.S + 88)) []) := b9; have HLB : Hid (w.heap.size ≤ B) := Nat.le_trans BB.out.size lb9; have BB : Hid (Below w.heap.size w w2) := BB.out.trans (B9.mono BB.out.size); clear b9 lb9 B9 t1; have t2 := tR)
    | (have q0 := t0; go_at_call 9; refine (SN.out w).mono ?_; rintro e9 w1 ⟨H, M, rfl, c9, m9, B9, p9, n9, l9, -, -⟩; have HC : Hid (Cs H M w1 (na.new (H.S + 88)) []) := c9; have HM : Hid (∀ k, M k = true → w.heap.size ≤ k) := m9; have HNP : Hid (nc H.S ≤ H.P ∧ 1 ≤ nc H.S) := ⟨p9, by omega⟩; have HPL : Hid (∀ j, H.pl j = none) := l9; have BB : Hid (Below w.heap.size w w1) := B9; clear c9 m9 B9 p9 n9 l9 t0; have t1 := tR))
  go_ret
  exact ⟨rfl, BB.out⟩
end Go.Proofs.YtakibiigcdgohaaGreatDoor.vb
namespace Go.Proofs.YtakibiigcdgohaaGreatDoor.vb
open Go.RowKit Go.Proofs.YtakibiigcdgohaaGreatDoor.fa Go.Proofs.YtakibiigcdgohaaGreatDoor.he Go.Proofs.YtakibiigcdgohaaGreatDoor.pa Go.Proofs.YtakibiigcdgohaaGreatDoor.ck
set_option maxRecDepth 20000
theorem rt_nc {H : Ch} (h : ge.Rt H.g) : nc H.S ≤ H.P := by
  have := h.2.2.1
  unfold Ch.g at this
  rw [rec_nc] at this
  have e : gb [(H.N : Int), (H.P : Int), (H.S : Int), H.g3, H.g4, H.g5] 1 = (H.P : Int) := rfl
  rw [e] at this
  omega
section
variable {N P T : Nat} {pl : na.Pln}
end
section
variable {H : Ch} {M : Nat → Bool} {w : World} {s : na.St} {l : List na.Opn}
theorem power_cs (h : Cs H M w s l) (b : Bool) : Calls Tryz.prog 14 #[.pointer (some ⟨H.c, 0, none⟩), .bool b] w fun e w' => (∃ v, e = .returned v) ∧ Cs H M w' (na.pwr s b) l ∧ na.Frm M w w' := by
  obtain ⟨⟨tv, z1⟩, z2, z3, z4, z5⟩ := h
  refine (na.power_any z1 b).mono ?_
  rintro e w' ⟨h1, rfl⟩
  have hf : na.Frm M w (w.setCell ⟨H.c, 7, none⟩ (.bool b)) := na.Frm.set z1.2.1.1.1 7 (.bool b)
  refine ⟨h1, ⟨⟨tv, ?_⟩, fun k q => Nat.lt_of_lt_of_le (z2 k q) hf.size, na.pwr_wf z3 b, na.lsp_pwr z4 b, z5⟩, hf⟩
  have z := z1.on b
  have e : na.raw H.N H.P (na.pwr s b) l = na.mkX (na.xi (na.raw H.N H.P s l)) (na.xp (na.raw H.N H.P s l)) (na.xe (na.raw H.N H.P s l)) (na.xs (na.raw H.N H.P s l)) b (na.xt (na.raw H.N H.P s l)) := by cases b <;> rfl
  rw [e]
  exact z
end
end Go.Proofs.YtakibiigcdgohaaGreatDoor.vb
namespace Go.Proofs.YtakibiigcdgohaaGreatDoor.vb
open Go.RowKit Go.Proofs.YtakibiigcdgohaaGreatDoor.fa Go.Proofs.YtakibiigcdgohaaGreatDoor.he Go.Proofs.YtakibiigcdgohaaGreatDoor.pa Go.Proofs.YtakibiigcdgohaaGreatDoor.ck
set_option maxRecDepth 20000
section
variable {ops : Array Oper} {rest : List Oper} {o : Oper} {a : Act} {Q : Exit → Act → World → Prop}
end
theorem light_any (g0 g1 g2 g3 g4 g5 : Int) (po so : Option Addr) (pc n sc : Nat) (fs : List (Int × Bool × Value)) (ms : Nat → List Int) (w : World) (hf : Fls w (.slice po fs.length pc) fs) (hm : Mks w fs ms) (t : Bool) (ht : t = true ↔ (ge.Rt [g0, g1, g2, g3, g4, g5] ∧ (fs.length ≤ 64 ∧ Okp fs ms fs.length) ∧ g0 ≤ 12 ∧ g1 ≤ 20 ∧ g2 ≤ 128 ∧ (n : Int) ≤ 8)) :
    Calls Tryz.prog 7 #[.agg ([.int .i64 g0, .int .i64 g1, .int .i64 g2, .int .i64 g3, .int .i64 g4, .int .i64 g5, .slice po fs.length pc, .slice so n sc] : List Value).toArray] w fun e w' => e = .returned (.bool t) ∧ Below w.heap.size w w' := by
  by_cases h0 : ge.Rt [g0, g1, g2, g3, g4, g5]
  · by_cases h1 : (fs.length ≤ 64 ∧ Okp fs ms fs.length)
    · by_cases h2 : g0 ≤ 12
      · by_cases h3 : g1 ≤ 20
        · by_cases h4 : g2 ≤ 128
          · by_cases h5 : (n : Int) ≤ 8
            · have e : t = true := ht.2 ⟨h0, h1, h2, h3, h4, h5⟩
              subst e
              have SG : Hid (∀ w0, Calls Tryz.prog 32 #[.agg (ints .i64 [g0, g1, g2, g3, g4, g5])] w0 fun x w' => x = .returned (.bool true) ∧ Below w0.heap.size w0 w') := ge.right_yes [g0, g1, g2, g3, g4, g5] rfl h0
              have SR : Hid (∀ w0, Below w.heap.size w w0 → Calls Tryz.prog 21 #[.slice po fs.length pc] w0 fun x w' => x = .returned (.bool true) ∧ Below w0.heap.size w0 w') := fun w0 b0 => (rright_any _ fs ms w0 (hf.below b0) (hm.below b0) true ⟨fun _ => h1, fun _ => rfl⟩).mono fun _ _ ⟨z1, m, z2⟩ => ⟨z1, by rw [z2]; exact fa.below_drawn (Below.refl _ _) m⟩
              clear ht hf hm h0 h1
              have t0 := tR
              go_enter Tryz.func7, Tryz.ntmps7
              go_wp2_with (first
                  | (have q2 := t2; go_at_call 21; refine (SR.out w2 BB.out).mono ?_; rintro e9 w3 ⟨rfl, B9⟩; have HV : Hid (Vr w3 w.heap.size [.int .i64 g0, .int .i64 g1, .int .i64 g2, .int .i64 g3, .int .i64 g4, .int .i64 g5, .slice po fs.length pc, .slice so n sc]) := HV.out.below B9 (range_lt HV.out.1 (Nat.succ_pos _)); have BB : Hid (Below w.heap.size w w3) := BB.out.trans (B9.mono BB.out.size); clear B9 t2 r0 r1 r2 r3 r4 r5 r6 r7; have r0 := HV.out.cell 0 _ rfl; have r1 := HV.out.cell 1 _ rfl; have r2 := HV.out.cell 2 _ rfl; have r7 := HV.out.cell 7 _ rfl; have t3 := tR)
                  | (have q1 := t1; go_at_call 32; refine (SG.out w1).mono ?_; rintro e9 w2 ⟨rfl, B9⟩; have HV : Hid (Vr w2 w.heap.size [.int .i64 g0, .int .i64 g1, .int .i64 g2, .int .i64 g3, .int .i64 g4, .int .i64 g5, .slice po fs.length pc, .slice so n sc]) := HV.out.below B9 (range_lt HV.out.1 (Nat.succ_pos _)); have BB : Hid (Below w.heap.size w w2) := BB.out.trans (B9.mono BB.out.size); clear B9 t1 r0 r1 r2 r3 r4 r5 r6 r7; have r0 := HV.out.cell 0 _ rfl; have r1 := HV.out.cell 1 _ rfl; have r2 := HV.out.cell 2 _ rfl; have r3 := HV.out.cell 3 _ rfl; have r4 := HV.out.cell 4 _ rfl; have r5 := HV.out.cell 5 _ rfl; have r6 := HV.out.cell 6 _ rfl; have r7 := HV.out.cell 7 _ rfl; have t2 := tR)
                  | (have q0 := t0; refine box_lawC _ [.int .i64 g0, .int .i64 g1, .int .i64 g2, .int .i64 g3, .int .i64 g4, .int .i64 g5, .slice po fs.length pc, .slice so n sc] rfl ?_; intro w1 X9 B9 l9; have HV : Hid (Vr w1 w.heap.size [.int .i64 g0, .int .i64 g1, .int .i64 g2, .int .i64 g3, .int .i64 g4, .int .i64 g5, .slice po fs.length pc, .slice so n sc]) := X9; have r0 := X9.cell 0 _ rfl; have r1 := X9.cell 1 _ rfl; have r2 := X9.cell 2 _ rfl; have r3 := X9.cell 3 _ rfl; have r4 := X9.cell 4 _ rfl; have r5 := X9.cell 5 _ rfl; have r6 := X9.cell 6 _ rfl; have r7 := X9.cell 7 _ rfl; have BB : Hid (Below w.heap.size w w1) := B9; clear X9 B9 l9 t0; have t1 := tR))
              go_ret
              first | exact ⟨rfl, BB.out⟩ | exact ⟨congrArg (fun z => Ending.returned (.bool z)) (decide_eq_false (by omega)), BB.out⟩ | exact ⟨congrArg (fun z => Ending.returned (.bool z)) (decide_eq_true h5), BB.out⟩
            · have e : t = false := by
                cases q : t with
                | false => rfl
                | true => exact absurd (ht.1 q).2.2.2.2.2 h5
              subst e
              have SG : Hid (∀ w0, Calls Tryz.prog 32 #[.agg (ints .i64 [g0, g1, g2, g3, g4, g5])] w0 fun x w' => x = .returned (.bool true) ∧ Below w0.heap.size w0 w') := ge.right_yes [g0, g1, g2, g3, g4, g5] rfl h0
              have SR : Hid (∀ w0, Below w.heap.size w w0 → Calls Tryz.prog 21 #[.slice po fs.length pc] w0 fun x w' => x = .returned (.bool true) ∧ Below w0.heap.size w0 w') := fun w0 b0 => (rright_any _ fs ms w0 (hf.below b0) (hm.below b0) true ⟨fun _ => h1, fun _ => rfl⟩).mono fun _ _ ⟨z1, m, z2⟩ => ⟨z1, by rw [z2]; exact fa.below_drawn (Below.refl _ _) m⟩
              clear ht hf hm h0 h1
              have t0 := tR
              go_enter Tryz.func7, Tryz.ntmps7
              go_wp2_with (first
                  | (have q2 := t2; go_at_call 21; refine (SR.out w2 BB.out).mono ?_; rintro e9 w3 ⟨rfl, B9⟩; have HV : Hid (Vr w3 w.heap.size [.int .i64 g0, .int .i64 g1, .int .i64 g2, .int .i64 g3, .int .i64 g4, .int .i64 g5, .slice po fs.length pc, .slice so n sc]) := HV.out.below B9 (range_lt HV.out.1 (Nat.succ_pos _)); have BB : Hid (Below w.heap.size w w3) := BB.out.trans (B9.mono BB.out.size); clear B9 t2 r0 r1 r2 r3 r4 r5 r6 r7; have r0 := HV.out.cell 0 _ rfl; have r1 := HV.out.cell 1 _ rfl; have r2 := HV.out.cell 2 _ rfl; have r7 := HV.out.cell 7 _ rfl; have t3 := tR)
                  | (have q1 := t1; go_at_call 32; refine (SG.out w1).mono ?_; rintro e9 w2 ⟨rfl, B9⟩; have HV : Hid (Vr w2 w.heap.size [.int .i64 g0, .int .i64 g1, .int .i64 g2, .int .i64 g3, .int .i64 g4, .int .i64 g5, .slice po fs.length pc, .slice so n sc]) := HV.out.below B9 (range_lt HV.out.1 (Nat.succ_pos _)); have BB : Hid (Below w.heap.size w w2) := BB.out.trans (B9.mono BB.out.size); clear B9 t1 r0 r1 r2 r3 r4 r5 r6 r7; have r0 := HV.out.cell 0 _ rfl; have r1 := HV.out.cell 1 _ rfl; have r2 := HV.out.cell 2 _ rfl; have r3 := HV.out.cell 3 _ rfl; have r4 := HV.out.cell 4 _ rfl; have r5 := HV.out.cell 5 _ rfl; have r6 := HV.out.cell 6 _ rfl; have r7 := HV.out.cell 7 _ rfl; have t2 := tR)
                  | (have q0 := t0; refine box_lawC _ [.int .i64 g0, .int .i64 g1, .int .i64 g2, .int .i64 g3, .int .i64 g4, .int .i64 g5, .slice po fs.length pc, .slice so n sc] rfl ?_; intro w1 X9 B9 l9; have HV : Hid (Vr w1 w.heap.size [.int .i64 g0, .int .i64 g1, .int .i64 g2, .int .i64 g3, .int .i64 g4, .int .i64 g5, .slice po fs.length pc, .slice so n sc]) := X9; have r0 := X9.cell 0 _ rfl; have r1 := X9.cell 1 _ rfl; have r2 := X9.cell 2 _ rfl; have r3 := X9.cell 3 _ rfl; have r4 := X9.cell 4 _ rfl; have r5 := X9.cell 5 _ rfl; have r6 := X9.cell 6 _ rfl; have r7 := X9.cell 7 _ rfl; have BB : Hid (Below w.heap.size w w1) := B9; clear X9 B9 l9 t0; have t1 := tR))
              go_ret
              first | exact ⟨rfl, BB.out⟩ | exact ⟨congrArg (fun z => Ending.returned (.bool z)) (decide_eq_false (by omega)), BB.out⟩ | exact ⟨congrArg (fun z => Ending.returned (.bool z)) (decide_eq_true h5), BB.out⟩
          · have e : t = false := by
              cases q : t with
              | false => rfl
              | true => exact absurd (ht.1 q).2.2.2.2.1 h4
            subst e
            have SG : Hid (∀ w0, Calls Tryz.prog 32 #[.agg (ints .i64 [g0, g1, g2, g3, g4, g5])] w0 fun x w' => x = .returned (.bool true) ∧ Below w0.heap.size w0 w') := ge.right_yes [g0, g1, g2, g3, g4, g5] rfl h0
            have SR : Hid (∀ w0, Below w.heap.size w w0 → Calls Tryz.prog 21 #[.slice po fs.length pc] w0 fun x w' => x = .returned (.bool true) ∧ Below w0.heap.size w0 w') := fun w0 b0 => (rright_any _ fs ms w0 (hf.below b0) (hm.below b0) true ⟨fun _ => h1, fun _ => rfl⟩).mono fun _ _ ⟨z1, m, z2⟩ => ⟨z1, by rw [z2]; exact fa.below_drawn (Below.refl _ _) m⟩
            clear ht hf hm h0 h1
            have t0 := tR
            go_enter Tryz.func7, Tryz.ntmps7
            go_wp2_with (first
                | (have q2 := t2; go_at_call 21; refine (SR.out w2 BB.out).mono ?_; rintro e9 w3 ⟨rfl, B9⟩; have HV : Hid (Vr w3 w.heap.size [.int .i64 g0, .int .i64 g1, .int .i64 g2, .int .i64 g3, .int .i64 g4, .int .i64 g5, .slice po fs.length pc, .slice so n sc]) := HV.out.below B9 (range_lt HV.out.1 (Nat.succ_pos _)); have BB : Hid (Below w.heap.size w w3) := BB.out.trans (B9.mono BB.out.size); clear B9 t2 r0 r1 r2 r3 r4 r5 r6 r7; have r0 := HV.out.cell 0 _ rfl; have r1 := HV.out.cell 1 _ rfl; have r2 := HV.out.cell 2 _ rfl; have r7 := HV.out.cell 7 _ rfl; have t3 := tR)
                | (have q1 := t1; go_at_call 32; refine (SG.out w1).mono ?_; rintro e9 w2 ⟨rfl, B9⟩; have HV : Hid (Vr w2 w.heap.size [.int .i64 g0, .int .i64 g1, .int .i64 g2, .int .i64 g3, .int .i64 g4, .int .i64 g5, .slice po fs.length pc, .slice so n sc]) := HV.out.below B9 (range_lt HV.out.1 (Nat.succ_pos _)); have BB : Hid (Below w.heap.size w w2) := BB.out.trans (B9.mono BB.out.size); clear B9 t1 r0 r1 r2 r3 r4 r5 r6 r7; have r0 := HV.out.cell 0 _ rfl; have r1 := HV.out.cell 1 _ rfl; have r2 := HV.out.cell 2 _ rfl; have r3 := HV.out.cell 3 _ rfl; have r4 := HV.out.cell 4 _ rfl; have r5 := HV.out.cell 5 _ rfl; have r6 := HV.out.cell 6 _ rfl; have r7 := HV.out.cell 7 _ rfl; have t2 := tR)
                | (have q0 := t0; refine box_lawC _ [.int .i64 g0, .int .i64 g1, .int .i64 g2, .int .i64 g3, .int .i64 g4, .int .i64 g5, .slice po fs.length pc, .slice so n sc] rfl ?_; intro w1 X9 B9 l9; have HV : Hid (Vr w1 w.heap.size [.int .i64 g0, .int .i64 g1, .int .i64 g2, .int .i64 g3, .int .i64 g4, .int .i64 g5, .slice po fs.length pc, .slice so n sc]) := X9; have r0 := X9.cell 0 _ rfl; have r1 := X9.cell 1 _ rfl; have r2 := X9.cell 2 _ rfl; have r3 := X9.cell 3 _ rfl; have r4 := X9.cell 4 _ rfl; have r5 := X9.cell 5 _ rfl; have r6 := X9.cell 6 _ rfl; have r7 := X9.cell 7 _ rfl; have BB : Hid (Below w.heap.size w w1) := B9; clear X9 B9 l9 t0; have t1 := tR))
            go_ret
            first | exact ⟨rfl, BB.out⟩ | exact ⟨congrArg (fun z => Ending.returned (.bool z)) (decide_eq_false (by omega)), BB.out⟩ | exact ⟨congrArg (fun z => Ending.returned (.bool z)) (decide_eq_true h5), BB.out⟩
        · have e : t = false := by
            cases q : t with
            | false => rfl
            | true => exact absurd (ht.1 q).2.2.2.1 h3
          subst e
          have SG : Hid (∀ w0, Calls Tryz.prog 32 #[.agg (ints .i64 [g0, g1, g2, g3, g4, g5])] w0 fun x w' => x = .returned (.bool true) ∧ Below w0.heap.size w0 w') := ge.right_yes [g0, g1, g2, g3, g4, g5] rfl h0
          have SR : Hid (∀ w0, Below w.heap.size w w0 → Calls Tryz.prog 21 #[.slice po fs.length pc] w0 fun x w' => x = .returned (.bool true) ∧ Below w0.heap.size w0 w') := fun w0 b0 => (rright_any _ fs ms w0 (hf.below b0) (hm.below b0) true ⟨fun _ => h1, fun _ => rfl⟩).mono fun _ _ ⟨z1, m, z2⟩ => ⟨z1, by rw [z2]; exact fa.below_drawn (Below.refl _ _) m⟩
          clear ht hf hm h0 h1
          have t0 := tR
          go_enter Tryz.func7, Tryz.ntmps7
          go_wp2_with (first
              | (have q2 := t2; go_at_call 21; refine (SR.out w2 BB.out).mono ?_; rintro e9 w3 ⟨rfl, B9⟩; have HV : Hid (Vr w3 w.heap.size [.int .i64 g0, .int .i64 g1, .int .i64 g2, .int .i64 g3, .int .i64 g4, .int .i64 g5, .slice po fs.length pc, .slice so n sc]) := HV.out.below B9 (range_lt HV.out.1 (Nat.succ_pos _)); have BB : Hid (Below w.heap.size w w3) := BB.out.trans (B9.mono BB.out.size); clear B9 t2 r0 r1 r2 r3 r4 r5 r6 r7; have r0 := HV.out.cell 0 _ rfl; have r1 := HV.out.cell 1 _ rfl; have r2 := HV.out.cell 2 _ rfl; have r7 := HV.out.cell 7 _ rfl; have t3 := tR)
              | (have q1 := t1; go_at_call 32; refine (SG.out w1).mono ?_; rintro e9 w2 ⟨rfl, B9⟩; have HV : Hid (Vr w2 w.heap.size [.int .i64 g0, .int .i64 g1, .int .i64 g2, .int .i64 g3, .int .i64 g4, .int .i64 g5, .slice po fs.length pc, .slice so n sc]) := HV.out.below B9 (range_lt HV.out.1 (Nat.succ_pos _)); have BB : Hid (Below w.heap.size w w2) := BB.out.trans (B9.mono BB.out.size); clear B9 t1 r0 r1 r2 r3 r4 r5 r6 r7; have r0 := HV.out.cell 0 _ rfl; have r1 := HV.out.cell 1 _ rfl; have r2 := HV.out.cell 2 _ rfl; have r3 := HV.out.cell 3 _ rfl; have r4 := HV.out.cell 4 _ rfl; have r5 := HV.out.cell 5 _ rfl; have r6 := HV.out.cell 6 _ rfl; have r7 := HV.out.cell 7 _ rfl; have t2 := tR)
              | (have q0 := t0; refine box_lawC _ [.int .i64 g0, .int .i64 g1, .int .i64 g2, .int .i64 g3, .int .i64 g4, .int .i64 g5, .slice po fs.length pc, .slice so n sc] rfl ?_; intro w1 X9 B9 l9; have HV : Hid (Vr w1 w.heap.size [.int .i64 g0, .int .i64 g1, .int .i64 g2, .int .i64 g3, .int .i64 g4, .int .i64 g5, .slice po fs.length pc, .slice so n sc]) := X9; have r0 := X9.cell 0 _ rfl; have r1 := X9.cell 1 _ rfl; have r2 := X9.cell 2 _ rfl; have r3 := X9.cell 3 _ rfl; have r4 := X9.cell 4 _ rfl; have r5 := X9.cell 5 _ rfl; have r6 := X9.cell 6 _ rfl; have r7 := X9.cell 7 _ rfl; have BB : Hid (Below w.heap.size w w1) := B9; clear X9 B9 l9 t0; have t1 := tR))
          go_ret
          first | exact ⟨rfl, BB.out⟩ | exact ⟨congrArg (fun z => Ending.returned (.bool z)) (decide_eq_false (by omega)), BB.out⟩ | exact ⟨congrArg (fun z => Ending.returned (.bool z)) (decide_eq_true h5), BB.out⟩
      · have e : t = false := by
          cases q : t with
          | false => rfl
          | true => exact absurd (ht.1 q).2.2.1 h2
        subst e
        have SG : Hid (∀ w0, Calls Tryz.prog 32 #[.agg (ints .i64 [g0, g1, g2, g3, g4, g5])] w0 fun x w' => x = .returned (.bool true) ∧ Below w0.heap.size w0 w') := ge.right_yes [g0, g1, g2, g3, g4, g5] rfl h0
        have SR : Hid (∀ w0, Below w.heap.size w w0 → Calls Tryz.prog 21 #[.slice po fs.length pc] w0 fun x w' => x = .returned (.bool true) ∧ Below w0.heap.size w0 w') := fun w0 b0 => (rright_any _ fs ms w0 (hf.below b0) (hm.below b0) true ⟨fun _ => h1, fun _ => rfl⟩).mono fun _ _ ⟨z1, m, z2⟩ => ⟨z1, by rw [z2]; exact fa.below_drawn (Below.refl _ _) m⟩
        clear ht hf hm h0 h1
        have t0 := tR
        go_enter Tryz.func7, Tryz.ntmps7
        go_wp2_with (first
            | (have q2 := t2; go_at_call 21; refine (SR.out w2 BB.out).mono ?_; rintro e9 w3 ⟨rfl, B9⟩; have HV : Hid (Vr w3 w.heap.size [.int .i64 g0, .int .i64 g1, .int .i64 g2, .int .i64 g3, .int .i64 g4, .int .i64 g5, .slice po fs.length pc, .slice so n sc]) := HV.out.below B9 (range_lt HV.out.1 (Nat.succ_pos _)); have BB : Hid (Below w.heap.size w w3) := BB.out.trans (B9.mono BB.out.size); clear B9 t2 r0 r1 r2 r3 r4 r5 r6 r7; have r0 := HV.out.cell 0 _ rfl; have r1 := HV.out.cell 1 _ rfl; have r2 := HV.out.cell 2 _ rfl; have r7 := HV.out.cell 7 _ rfl; have t3 := tR)
            | (have q1 := t1; go_at_call 32; refine (SG.out w1).mono ?_; rintro e9 w2 ⟨rfl, B9⟩; have HV : Hid (Vr w2 w.heap.size [.int .i64 g0, .int .i64 g1, .int .i64 g2, .int .i64 g3, .int .i64 g4, .int .i64 g5, .slice po fs.length pc, .slice so n sc]) := HV.out.below B9 (range_lt HV.out.1 (Nat.succ_pos _)); have BB : Hid (Below w.heap.size w w2) := BB.out.trans (B9.mono BB.out.size); clear B9 t1 r0 r1 r2 r3 r4 r5 r6 r7; have r0 := HV.out.cell 0 _ rfl; have r1 := HV.out.cell 1 _ rfl; have r2 := HV.out.cell 2 _ rfl; have r3 := HV.out.cell 3 _ rfl; have r4 := HV.out.cell 4 _ rfl; have r5 := HV.out.cell 5 _ rfl; have r6 := HV.out.cell 6 _ rfl; have r7 := HV.out.cell 7 _ rfl; have t2 := tR)
            | (have q0 := t0; refine box_lawC _ [.int .i64 g0, .int .i64 g1, .int .i64 g2, .int .i64 g3, .int .i64 g4, .int .i64 g5, .slice po fs.length pc, .slice so n sc] rfl ?_; intro w1 X9 B9 l9; have HV : Hid (Vr w1 w.heap.size [.int .i64 g0, .int .i64 g1, .int .i64 g2, .int .i64 g3, .int .i64 g4, .int .i64 g5, .slice po fs.length pc, .slice so n sc]) := X9; have r0 := X9.cell 0 _ rfl; have r1 := X9.cell 1 _ rfl; have r2 := X9.cell 2 _ rfl; have r3 := X9.cell 3 _ rfl; have r4 := X9.cell 4 _ rfl; have r5 := X9.cell 5 _ rfl; have r6 := X9.cell 6 _ rfl; have r7 := X9.cell 7 _ rfl; have BB : Hid (Below w.heap.size w w1) := B9; clear X9 B9 l9 t0; have t1 := tR))
        go_ret
        first | exact ⟨rfl, BB.out⟩ | exact ⟨congrArg (fun z => Ending.returned (.bool z)) (decide_eq_false (by omega)), BB.out⟩ | exact ⟨congrArg (fun z => Ending.returned (.bool z)) (decide_eq_true h5), BB.out⟩
    · have e : t = false := by
        cases q : t with
        | false => rfl
        | true => exact absurd (ht.1 q).2.1 h1
      subst e
      have SG : Hid (∀ w0, Calls Tryz.prog 32 #[.agg (ints .i64 [g0, g1, g2, g3, g4, g5])] w0 fun x w' => x = .returned (.bool true) ∧ Below w0.heap.size w0 w') := ge.right_yes [g0, g1, g2, g3, g4, g5] rfl h0
      have SR : Hid (∀ w0, Below w.heap.size w w0 → Calls Tryz.prog 21 #[.slice po fs.length pc] w0 fun x w' => x = .returned (.bool false) ∧ Below w0.heap.size w0 w') := fun w0 b0 => (rright_any _ fs ms w0 (hf.below b0) (hm.below b0) false ⟨fun z => absurd z Bool.false_ne_true, fun z => absurd z h1⟩).mono fun _ _ ⟨z1, m, z2⟩ => ⟨z1, by rw [z2]; exact fa.below_drawn (Below.refl _ _) m⟩
      clear ht hf hm h0 h1
      have t0 := tR
      go_enter Tryz.func7, Tryz.ntmps7
      go_wp2_with (first
          | (have q2 := t2; go_at_call 21; refine (SR.out w2 BB.out).mono ?_; rintro e9 w3 ⟨rfl, B9⟩; have HV : Hid (Vr w3 w.heap.size [.int .i64 g0, .int .i64 g1, .int .i64 g2, .int .i64 g3, .int .i64 g4, .int .i64 g5, .slice po fs.length pc, .slice so n sc]) := HV.out.below B9 (range_lt HV.out.1 (Nat.succ_pos _)); have BB : Hid (Below w.heap.size w w3) := BB.out.trans (B9.mono BB.out.size); clear B9 t2 r0 r1 r2 r3 r4 r5 r6 r7; have r0 := HV.out.cell 0 _ rfl; have r1 := HV.out.cell 1 _ rfl; have r2 := HV.out.cell 2 _ rfl; have r7 := HV.out.cell 7 _ rfl; have t3 := tR)
          | (have q1 := t1; go_at_call 32; refine (SG.out w1).mono ?_; rintro e9 w2 ⟨rfl, B9⟩; have HV : Hid (Vr w2 w.heap.size [.int .i64 g0, .int .i64 g1, .int .i64 g2, .int .i64 g3, .int .i64 g4, .int .i64 g5, .slice po fs.length pc, .slice so n sc]) := HV.out.below B9 (range_lt HV.out.1 (Nat.succ_pos _)); have BB : Hid (Below w.heap.size w w2) := BB.out.trans (B9.mono BB.out.size); clear B9 t1 r0 r1 r2 r3 r4 r5 r6 r7; have r0 := HV.out.cell 0 _ rfl; have r1 := HV.out.cell 1 _ rfl; have r2 := HV.out.cell 2 _ rfl; have r3 := HV.out.cell 3 _ rfl; have r4 := HV.out.cell 4 _ rfl; have r5 := HV.out.cell 5 _ rfl; have r6 := HV.out.cell 6 _ rfl; have r7 := HV.out.cell 7 _ rfl; have t2 := tR)
          | (have q0 := t0; refine box_lawC _ [.int .i64 g0, .int .i64 g1, .int .i64 g2, .int .i64 g3, .int .i64 g4, .int .i64 g5, .slice po fs.length pc, .slice so n sc] rfl ?_; intro w1 X9 B9 l9; have HV : Hid (Vr w1 w.heap.size [.int .i64 g0, .int .i64 g1, .int .i64 g2, .int .i64 g3, .int .i64 g4, .int .i64 g5, .slice po fs.length pc, .slice so n sc]) := X9; have r0 := X9.cell 0 _ rfl; have r1 := X9.cell 1 _ rfl; have r2 := X9.cell 2 _ rfl; have r3 := X9.cell 3 _ rfl; have r4 := X9.cell 4 _ rfl; have r5 := X9.cell 5 _ rfl; have r6 := X9.cell 6 _ rfl; have r7 := X9.cell 7 _ rfl; have BB : Hid (Below w.heap.size w w1) := B9; clear X9 B9 l9 t0; have t1 := tR))
      go_ret
      first | exact ⟨rfl, BB.out⟩ | exact ⟨congrArg (fun z => Ending.returned (.bool z)) (decide_eq_false (by omega)), BB.out⟩ | exact ⟨congrArg (fun z => Ending.returned (.bool z)) (decide_eq_true h5), BB.out⟩
  · have e : t = false := by
      cases q : t with
      | false => rfl
      | true => exact absurd (ht.1 q).1 h0
    subst e
    have SG : Hid (∀ w0, Calls Tryz.prog 32 #[.agg (ints .i64 [g0, g1, g2, g3, g4, g5])] w0 fun x w' => x = .returned (.bool false) ∧ Below w0.heap.size w0 w') := ge.right_no [g0, g1, g2, g3, g4, g5] rfl h0
    clear ht hf hm h0
    have t0 := tR
    go_enter Tryz.func7, Tryz.ntmps7
    go_wp2_with (first
        | (have q1 := t1; go_at_call 32; refine (SG.out w1).mono ?_; rintro e9 w2 ⟨rfl, B9⟩; have HV : Hid (Vr w2 w.heap.size [.int .i64 g0, .int .i64 g1, .int .i64 g2, .int .i64 g3, .int .i64 g4, .int .i64 g5, .slice po fs.length pc, .slice so n sc]) := HV.out.below B9 (range_lt HV.out.1 (Nat.succ_pos _)); have BB : Hid (Below w.heap.size w w2) := BB.out.trans (B9.mono BB.out.size); clear B9 t1 r0 r1 r2 r3 r4 r5 r6 r7; have r0 := HV.out.cell 0 _ rfl; have r1 := HV.out.cell 1 _ rfl; have r2 := HV.out.cell 2 _ rfl; have r3 := HV.out.cell 3 _ rfl; have r4 := HV.out.cell 4 _ rfl; have r5 := HV.out.cell 5 _ rfl; have r6 := HV.out.cell 6 _ rfl; have r7 := HV.out.cell 7 _ rfl; have t2 := tR)
        | (have q0 := t0; refine box_lawC _ [.int .i64 g0, .int .i64 g1, .int .i64 g2, .int .i64 g3, .int .i64 g4, .int .i64 g5, .slice po fs.length pc, .slice so n sc] rfl ?_; intro w1 X9 B9 l9; have HV : Hid (Vr w1 w.heap.size [.int .i64 g0, .int .i64 g1, .int .i64 g2, .int .i64 g3, .int .i64 g4, .int .i64 g5, .slice po fs.length pc, .slice so n sc]) := X9; have r0 := X9.cell 0 _ rfl; have r1 := X9.cell 1 _ rfl; have r2 := X9.cell 2 _ rfl; have r3 := X9.cell 3 _ rfl; have r4 := X9.cell 4 _ rfl; have r5 := X9.cell 5 _ rfl; have r6 := X9.cell 6 _ rfl; have r7 := X9.cell 7 _ rfl; have BB : Hid (Below w.heap.size w w1) := B9; clear X9 B9 l9 t0; have t1 := tR))
    go_ret
    first | exact ⟨rfl, BB.out⟩ | exact ⟨congrArg (fun z => Ending.returned (.bool z)) (decide_eq_false (by omega)), BB.out⟩ | exact ⟨congrArg (fun z => Ending.returned (.bool z)) (decide_eq_true h5), BB.out⟩
def HIs (H : Ch) (N P S : Nat) (g3 g4 g5 : Int) (pl : na.Pln) : Prop := H.N = N ∧ H.P = P ∧ H.S = S ∧ H.g3 = g3 ∧ H.g4 = g4 ∧ H.g5 = g5 ∧ H.pl = pl
section
variable {H : Ch} {M : Nat → Bool} {w : World} {B : Nat} {b : Bx} {l : List na.Opn} {s : na.St} {N P S : Nat} {g3 g4 g5 : Int} {pl : na.Pln}
theorem commit_at (hh : HIs H N P S g3 g4 g5 pl) (h : Bs H M w B b l) (hp : Plc b.cur) (v : Value) (xs : List Int) (hy : Byt w v xs) (hl : xs.length = 624) (gen : Int) (hg : 0 ≤ gen ∧ gen ≤ 18446744073709551615) (hT : Tab w) (hn : na.ops b.s ≤ 900000) :
    Calls Tryz.prog 18 #[.pointer (some ⟨B, 0, none⟩), v, .int .u64 gen] w (Opd H M w B (cmt N P (S + 88) pl b (lps S xs gen) gen).2 (cmt N P (S + 88) pl b (lps S xs gen) gen).1) := by
  obtain ⟨rfl, rfl, rfl, -, -, -, rfl⟩ := hh
  exact commit_any h hp v xs hy hl gen hg hT hn
theorem open_new_at (hh : HIs H N P S g3 g4 g5 pl) (h : Cs H M w (na.new (S + 88)) []) (hT : Tab w) :
    Calls Tryz.prog 10 #[.pointer (some ⟨H.c, 0, none⟩)] w fun e w' => ∃ B ro rc, e = .returned (.tuple #[.pointer (some ⟨B, 0, none⟩), .slice ro 0 rc, .int .i64 10]) ∧ Bs H M w' B (b0 (S + 88)) [] ∧ w.heap.size ≤ B ∧ Below w.heap.size w w' := by
  obtain ⟨rfl, rfl, rfl, -, -, -, rfl⟩ := hh
  exact open_new h hT (rt_nc h.rt)
end
end Go.Proofs.YtakibiigcdgohaaGreatDoor.vb
namespace Go.Proofs.YtakibiigcdgohaaGreatDoor.fa
open Go.ChangeShapes Go.WideShapes Go.ChangeAt Go.RowKit
set_option maxRecDepth 20000
theorem cells_int : Tryz.prog.cellsOf 3 = 1 := by kernel_rfl
theorem cells_bool : Tryz.prog.cellsOf 4 = 1 := by kernel_rfl
theorem cells_bytes : Tryz.prog.cellsOf 35 = 1 := by kernel_rfl
theorem cells_fault : Tryz.prog.cellsOf 63 = 3 := by kernel_rfl
theorem bytes_u8 : Tryz.prog.bytesOf 5 = 1 := by kernel_rfl
theorem weightsAll_mem {H : Type} {P : Program} {e : TypeId} {n : Nat} : ∀ {l : List (DataW H)} {d : DataW H}, d ∈ l → n ∈ d.weights P e → n ∈ DataW.weightsAll P e l
  | _ :: _, _, h, hn => by
    simp only [DataW.weightsAll, List.mem_append]
    rcases List.mem_cons.1 h with rfl | h
    · exact Or.inl hn
    · exact Or.inr (weightsAll_mem h hn)
set_option maxRecDepth 20000 in
theorem byt_cell {H : Type} {enc : TypeId × Value → H} {W : World} {fuel : Nat} {v : Value} {x : DataW H × List MemPlace} (hf : DataW.trod enc Tryz.prog W 0 (fun _ => true) true fuel 35 [v] = some x) :
    ∃ xs, Byt W v xs ∧ ((∀ n ∈ x.1.weights Tryz.prog 35, n ≤ reachBytes) → xs.length ≤ 140737488355328) := by
  rcases open_ints Tryz.underlying35 Tryz.underlying5 cells_u8 hf with ⟨hcs, hx⟩ | ⟨a, len, cap, zs, hcs, _, hl, hm, hz, hx, hcell, hwz⟩
  · simp at hcs
    subst hcs
    exact ⟨[], Byt.nil W, fun _ => by simp⟩
  · simp at hcs
    subst hcs
    simp at hz
    have hlen : (zs.take len).length = len := by simp; omega
    have hgb : ∀ t, t < len → gb (zs.take len) t = zs.getD t 0 := fun t ht => by simp [gb, List.getD, ht]
    refine ⟨zs.take len, ⟨some a, cap, by rw [hlen], by omega, by simpa [maxLen] using hm, allB_mem fun x hx => bounds_u8 (hwz x (List.mem_of_mem_take hx)), (by intro h; cases h), fun hp => ?_⟩, fun hw => ?_⟩
    · obtain ⟨b, off, rfl, hc⟩ := ints_at hcell (by omega)
      refine ⟨b, off, rfl, fun t ht => ?_⟩
      rw [hgb t (by omega)]
      exact hc t (by omega)
    · have := hw cap (by
        rw [hx]
        simp only [DataW.weights, Tryz.underlying35, bytes_u8]
        have : ((lits .u8 (zs.take len) : List (DataW H)).length + (lits .u8 (zs.drop len) : List (DataW H)).length) * 1 = cap := by
          simp [lits]; omega
        rw [this]
        exact List.mem_cons_self)
      simp only [reachBytes] at this
      omega
end Go.Proofs.YtakibiigcdgohaaGreatDoor.fa
namespace Go.Proofs.YtakibiigcdgohaaGreatDoor.ge
open Go.ChangeShapes Go.WideShapes Go.ChangeAt Go.RowKit
set_option maxRecDepth 20000
theorem cells_geo : Tryz.prog.cellsOf 23 = 6 := by kernel_rfl
theorem int_cell {H : Type} {enc : TypeId × Value → H} {W : World} {fuel : Nat} {c : Value} {x : DataW H × List MemPlace}
    (hf : DataW.trod enc Tryz.prog W 0 (fun _ => true) true fuel 3 [c] = some x) : ∃ n, c = .int .i64 n := by
  obtain ⟨y, hy, -⟩ := DataW.trod_int Tryz.underlying3 hf
  exact ⟨y, by simpa using hy⟩
end Go.Proofs.YtakibiigcdgohaaGreatDoor.ge
namespace Go.Proofs.YtakibiigcdgohaaGreatDoor.vb
open Go.ChangeShapes Go.WideShapes Go.ChangeAt Go.RowKit Go.Proofs.YtakibiigcdgohaaGreatDoor.fa
set_option maxRecDepth 20000
abbrev Kst : Type := Int × Int × Bool
def tc3 (t : Kst) : List Value := [.int .u8 t.1, .int .u64 t.2.1, .bool t.2.2]
def Ksts (w : World) (v : Value) (ts : List Kst) : Prop := na.Rws w v 3 (ts.map tc3) ∧ ∀ t ∈ ts, (0 ≤ t.1 ∧ t.1 ≤ 255) ∧ 0 ≤ t.2.1 ∧ t.2.1 ≤ 18446744073709551615
theorem cells_kstep : Tryz.prog.cellsOf 50 = 3 := by kernel_rfl
theorem cellsK : Tryz.prog.cellsOf 27 = 8 := by kernel_rfl
theorem cellsS : Tryz.prog.cellsOf 25 = 1 := by kernel_rfl
theorem cellsF : Tryz.prog.cellsOf 24 = 1 := by kernel_rfl
theorem cellsI : Tryz.prog.cellsOf 3 = 1 := by kernel_rfl
theorem cellsB : Tryz.prog.cellsOf 4 = 1 := by kernel_rfl
theorem cellsU8 : Tryz.prog.cellsOf 5 = 1 := by kernel_rfl
theorem cellsU64 : Tryz.prog.cellsOf 41 = 1 := by kernel_rfl
set_option maxRecDepth 20000 in
theorem faults_cell {H : Type} {enc : TypeId × Value → H} {W : World} {fuel : Nat} {v : Value} {d : DataW H} {ps : List MemPlace} (hf : DataW.trod enc Tryz.prog W 0 (fun _ => true) true fuel 24 [v] = some (d, ps)) (hw : ∀ n ∈ d.weights Tryz.prog 24, n ≤ reachBytes) : ∃ fs ms, Fls W v fs ∧ Mks W fs ms := by
  rcases Go.Deep.open_slice Tryz.underlying24 hf with ⟨hcs, hx⟩ | ⟨a, len, cap, m, n, D, Pl, hcs, _, hl, hm, hmm, hx, hr⟩
  · obtain rfl : v = .slice none 0 0 := by simpa using hcs
    exact ⟨[], fun _ => [], ⟨none, 0, rfl, by simp, by simp, fun _ => rfl, fun h => by simp at h⟩, fun t ht => by simp at ht⟩
  · obtain rfl : v = .slice (some a) len cap := by simpa using hcs
    simp at hmm
    subst hmm
    have hd : d = _ := (Prod.mk.inj hx).1
    have each : ∀ i, i < len → ∃ q : (Int × Bool × Value) × List Int, (W.cell? (a.add (i * 3)) = some (.int .i64 q.1.1) ∧ W.cell? (a.add (i * 3 + 1)) = some (.bool q.1.2.1) ∧ W.cell? (a.add (i * 3 + 2)) = some q.1.2.2) ∧ Byt W q.1.2.2 q.2 ∧ q.2.length ≤ 140737488355328 := by
      intro i hi
      obtain ⟨cs', h1, h2⟩ := hr i (by omega)
      rw [cells_fault] at h1
      obtain ⟨_, hlen, hcell⟩ := World.cells?_some h1
      obtain ⟨xs, k, hk, hxy, _, hxl, hff⟩ := DataW.trod_struct Tryz.underlying63 h2
      match xs, hxl, cs', hlen with
      | [y0, y1, y2], _, [v0, v1, v2], _ =>
        have g0 := hff 0 _ rfl
        have g1 := hff 1 _ rfl
        have g2 := hff 2 _ rfl
        simp [cells_int, cells_bool, cells_bytes] at g0 g1 g2
        have e0 := hcell 0 (by omega)
        have e1 := hcell 1 (by omega)
        have e2 := hcell 2 (by omega)
        rw [Go.Deep.add_add] at e0 e1 e2
        obtain ⟨x, hx0, -⟩ := DataW.trod_int Tryz.underlying3 g0
        obtain ⟨c, hx1, -⟩ := DataW.trod_bool Tryz.underlying4 g1
        simp at hx0 hx1
        subst hx0
        subst hx1
        obtain ⟨zs, hz, hzb⟩ := byt_cell g2
        refine ⟨((x, c, v2), zs), ⟨by simpa using e0, by simpa using e1, by simpa using e2⟩, hz, hzb fun w' hw' => hw w' ?_⟩
        rw [hd]
        simp only [DataW.weights, Tryz.underlying24]
        refine List.mem_cons_of_mem _ (List.mem_append_left _ (weightsAll_mem (List.mem_map.2 ⟨i, List.mem_range.2 hi, rfl⟩) ?_))
        have hDi : D i = .agg [y0.1, y1.1, y2.1] := by
          have := (Prod.mk.inj hxy).1
          simpa using this
        rw [hDi]
        simp only [DataW.weights, Tryz.underlying63, List.map_cons, List.map_nil, DataW.weightsEach, List.append_nil]
        exact List.mem_append_right _ (List.mem_append_right _ hw')
    obtain ⟨q, hq⟩ := Go.Deep.choose_lt each
    have hlen : ((List.range len).map fun i => (q i).1).length = len := by simp
    have hgf : ∀ t, t < len → gf ((List.range len).map fun i => (q i).1) t = (q t).1 := fun t ht => by simp [gf, List.getD, ht]
    refine ⟨(List.range len).map fun i => (q i).1, fun i => (q i).2, ⟨some a, m, by rw [hlen], by omega, by simpa [maxLen] using hm, (by intro e; cases e), fun hp => ?_⟩, fun t ht => ?_⟩
    · rw [hlen] at hp ⊢
      obtain ⟨b, off, spot⟩ := a
      have hspot : spot = none := by simpa [Addr.add] using World.cell?_spot (hq 0 hp).1.1
      subst hspot
      refine ⟨b, off, rfl, fun t ht => ?_⟩
      rw [hgf t ht]
      have := (hq t ht).1
      simp only [Addr.add_mid] at this
      exact ⟨this.1, this.2.1, this.2.2⟩
    · rw [hlen] at ht
      rw [hgf t ht]
      exact (hq t ht).2
set_option maxRecDepth 20000 in
theorem steps_cell {H : Type} {enc : TypeId × Value → H} {W : World} {fuel : Nat} {v : Value} {x : DataW H × List MemPlace} (hf : DataW.trod enc Tryz.prog W 0 (fun _ => true) true fuel 25 [v] = some x) : ∃ ts, Ksts W v ts := by
  rcases Go.Deep.open_slice Tryz.underlying25 hf with ⟨hcs, hx⟩ | ⟨a, len, cap, m, n, D, Pl, hcs, _, hl, hm, hmm, hx, hr⟩
  · obtain rfl : v = .slice none 0 0 := by simpa using hcs
    exact ⟨[], na.Rws.nil W 3, fun t ht => by simp at ht⟩
  · obtain rfl : v = .slice (some a) len cap := by simpa using hcs
    simp at hmm
    subst hmm
    have each : ∀ i, i < len → ∃ q : Kst, (∀ j u, (tc3 q)[j]? = some u → W.cell? (a.add (i * 3 + j)) = some u) ∧ (0 ≤ q.1 ∧ q.1 ≤ 255) ∧ 0 ≤ q.2.1 ∧ q.2.1 ≤ 18446744073709551615 := by
      intro i hi
      obtain ⟨cs', h1, h2⟩ := hr i (by omega)
      rw [cells_kstep] at h1
      obtain ⟨_, hlen, hcell⟩ := World.cells?_some h1
      obtain ⟨xs, k, hk, hxy, _, hxl, hff⟩ := DataW.trod_struct Tryz.underlying50 h2
      match xs, hxl, cs', hlen with
      | [y0, y1, y2], _, [v0, v1, v2], _ =>
        have g0 := hff 0 _ rfl
        have g1 := hff 1 _ rfl
        have g2 := hff 2 _ rfl
        simp [cellsB, cellsU8, cellsU64] at g0 g1 g2
        obtain ⟨x0, hx0, -, hw0⟩ := DataW.trod_int Tryz.underlying5 g0
        obtain ⟨x1, hx1, -, hw1⟩ := DataW.trod_int Tryz.underlying41 g1
        obtain ⟨x2, hx2, -⟩ := DataW.trod_bool Tryz.underlying4 g2
        simp at hx0 hx1 hx2
        subst hx0 hx1 hx2
        have e0 := hcell 0 (by omega)
        have e1 := hcell 1 (by omega)
        have e2 := hcell 2 (by omega)
        rw [Go.Deep.add_add] at e0 e1 e2
        refine ⟨(x0, x1, x2), fun j u hj => ?_, bounds_u8 hw0, bounds_u64 hw1⟩
        match j, hj with
        | 0, hj => simp [tc3] at hj; subst hj; simpa using e0
        | 1, hj => simp [tc3] at hj; subst hj; simpa using e1
        | 2, hj => simp [tc3] at hj; subst hj; simpa using e2
    obtain ⟨q, hq⟩ := Go.Deep.choose_lt each
    have hel : ∀ t, t < len → na.el (((List.range len).map q).map tc3) t = tc3 (q t) := fun t ht => by simp [na.el, List.getD, ht]
    refine ⟨(List.range len).map q, ⟨some a, m, by simp, by simp; omega, by simpa [maxLen] using hm, (by intro e; cases e), fun t ht => ?_, fun hp => ?_⟩, fun t ht => ?_⟩
    · simp at ht
      rw [hel t ht]
      rfl
    · simp at hp
      obtain ⟨b, off, spot⟩ := a
      have hspot : spot = none := by simpa [Addr.add] using World.cell?_spot ((hq 0 hp).1 0 _ rfl)
      subst hspot
      refine ⟨b, off, rfl, fun t ht => ?_⟩
      simp at ht
      rw [hel t ht]
      intro j u hu
      have := (hq t ht).1 j u hu
      simp only [Addr.add_mid] at this
      rw [Nat.add_assoc]
      exact this
    · obtain ⟨i, hi, rfl⟩ := List.mem_map.1 ht
      exact (hq i (List.mem_range.1 hi)).2
set_option maxRecDepth 20000 in
theorem case_open {H : Type} {enc : TypeId × Value → H} {W : World} {base : Nat} {v : Value} {d : DataW H} {ps : List MemPlace}
    (ok : Value.okWide Tryz.prog W .any base 27 v) (h : DataW.Trod enc Tryz.prog W 0 (fun _ => true) true 27 v d ps) (hw : ∀ n ∈ d.weights Tryz.prog 27, n ≤ reachBytes) : ∃ g pv sv fs ms ts, v = .agg ((g : List Int).map (Value.int .i64) ++ [pv, sv]).toArray ∧ g.length = 6 ∧ Fls W pv fs ∧ Mks W fs ms ∧ Ksts W sv ts := by
  simp only [Value.okWide, Tryz.underlying27] at ok
  obtain ⟨cs, rfl, h2, _⟩ := ok
  rw [cellsK] at h2
  obtain ⟨l⟩ := cs
  obtain ⟨c0, c1, c2, c3, c4, c5, c6, c7, rfl⟩ : ∃ c0 c1 c2 c3 c4 c5 c6 c7, l = [c0, c1, c2, c3, c4, c5, c6, c7] := by
    match l, h2 with
    | [c0, c1, c2, c3, c4, c5, c6, c7], _ => exact ⟨c0, c1, c2, c3, c4, c5, c6, c7, rfl⟩
  obtain ⟨fuel, hf⟩ := h
  obtain ⟨xs, n, -, hxy, -, hlen, hall⟩ := DataW.trod_struct Tryz.underlying27 hf
  match xs, hlen with
  | [y0, y1, y2], _ =>
    have a0 := hall 0 _ rfl
    have a1 := hall 1 _ rfl
    have a2 := hall 2 _ rfl
    simp [ge.cells_geo, cellsF, cellsS, Value.cells] at a0 a1 a2
    obtain ⟨xs', n', -, -, -, hlen', hall'⟩ := DataW.trod_struct Tryz.underlying23 a0
    match xs', hlen' with
    | [z0, z1, z2, z3, z4, z5], _ =>
      have b0 := hall' 0 _ rfl
      have b1 := hall' 1 _ rfl
      have b2 := hall' 2 _ rfl
      have b3 := hall' 3 _ rfl
      have b4 := hall' 4 _ rfl
      have b5 := hall' 5 _ rfl
      simp [cellsI] at b0 b1 b2 b3 b4 b5
      obtain ⟨n0, rfl⟩ := ge.int_cell b0
      obtain ⟨n1, rfl⟩ := ge.int_cell b1
      obtain ⟨n2, rfl⟩ := ge.int_cell b2
      obtain ⟨n3, rfl⟩ := ge.int_cell b3
      obtain ⟨n4, rfl⟩ := ge.int_cell b4
      obtain ⟨n5, rfl⟩ := ge.int_cell b5
      obtain ⟨ts, hts⟩ := steps_cell a2
      have hd : d = .agg [y0.1, y1.1, y2.1] := by
        have := (Prod.mk.inj hxy).1
        simpa using this
      obtain ⟨fs, ms, q1, q2⟩ := faults_cell (d := y1.1) (ps := y1.2) a1 fun w' hw' => hw w' (by
        rw [hd]
        simp only [DataW.weights, Tryz.underlying27, List.map_cons, List.map_nil, DataW.weightsEach, List.append_nil]
        exact List.mem_append_right _ (List.mem_append_left _ hw'))
      exact ⟨[n0, n1, n2, n3, n4, n5], c6, c7, fs, ms, ts, rfl, rfl, q1, q2, hts⟩
end Go.Proofs.YtakibiigcdgohaaGreatDoor.vb
