/- Parts of the proof: what KeyboxGone reaches. No claim of its own. -/
import Derived.WalkKit
import Derived.Deep.QuietTactic
import Derived.Deep.RegionHeld3
import Derived.Deep.WholeRow
import Derived.Deep.MidRow
import Derived.Laws.StructEq
import Derived.Lib.AppendZeros
import Derived.Lib.SliceRun
import Derived.Lib.MakeNoZero
import Derived.Deep.DeepCutAuto
import Derived.Deep.Slices
import Derived.ArgAppend
import Derived.WalkSmall
import Derived.ProofKit
import Derived.OpenShut
import Derived.BigQuiet
import Derived.Laws.AppendOwnNone
import Derived.Deep.DeepHandedRow
import Derived.Lib.LaidTab
import Derived.Deep.Matrix
import Derived.Test.YtakibiigcdgohaaGreatDoorD00
import Derived.Test.YtakibiigcdgohaaGreatDoorD01
import Derived.Test.YtakibiigcdgohaaGreatDoorD02
import Derived.Test.YtakibiigcdgohaaGreatDoorD03
import Derived.Test.YtakibiigcdgohaaGreatDoorD04
import Derived.Test.YtakibiigcdgohaaGreatDoorD05
import Derived.Test.YtakibiigcdgohaaGreatDoorD06
import Derived.Test.YtakibiigcdgohaaGreatDoorD07
import Derived.Test.YtakibiigcdgohaaGreatDoorD08
import Derived.Test.YtakibiigcdgohaaGreatDoorD09
import Derived.Test.YtakibiigcdgohaaGreatDoorD10
import Derived.Test.YtakibiigcdgohaaGreatDoorD11
import Derived.Test.YtakibiigcdgohaaGreatDoorD12
import Derived.Test.YtakibiigcdgohaaGreatDoorD13
import Derived.Test.YtakibiigcdgohaaGreatDoorD14
import Derived.Test.YtakibiigcdgohaaGreatDoorD15
import Derived.Test.YtakibiigcdgohaaGreatDoorD16
import Derived.Test.YtakibiigcdgohaaGreatDoorD17
import Derived.Test.YtakibiigcdgohaaGreatDoorD18
import Derived.Test.YtakibiigcdgohaaGreatDoorD19
set_option maxHeartbeats 8000000
namespace Go.Proofs.YtakibiigcdgohaaGreatDoor.vb
open Go.RowKit Go.Proofs.YtakibiigcdgohaaGreatDoor.fa Go.Proofs.YtakibiigcdgohaaGreatDoor.he Go.Proofs.YtakibiigcdgohaaGreatDoor.pa Go.Proofs.YtakibiigcdgohaaGreatDoor.ck
set_option maxRecDepth 20000
theorem gb_trans {w w1 w2 : World} {g : Nat} (h : w.grownBy w1 (some g)) (h2 : w1.grownBy w2 (some g)) : w.grownBy w2 (some g) :=
  ⟨h2.os.trans h.os, h2.tape.trans h.tape, h2.output.trans h.output, Nat.le_trans h.size h2.size, fun k hk q => (h2.block k (Nat.lt_of_lt_of_le hk h.size) q).trans (h.block k hk q)⟩
theorem gb_below {w w1 : World} {g B : Nat} (h : Below B w w1) (hB : B = w.heap.size) : w.grownBy w1 (some g) := by
  subst hB
  exact ⟨h.os, h.tape, h.output, h.size, fun k hk _ => h.block k hk⟩
theorem pgk_keep {B g n : Nat} {w w' : World} {v : Value} {F : Nat → List Int} (h : Pgk B w v F n) (hg : g < B) (hk : w.grownBy w' (some g)) : Pgk B w' v F n := by
  obtain ⟨vs, h1, h2, h3⟩ := h
  have ne : ∀ {u : Value} {e : TypeId} {k n : Nat} {xs : List Value}, w.ownsRow B e k u n xs → u.ownBlock = none ∨ u.ownBlock ≠ some g := fun {u e k n xs} z => by
    cases hv : u.ownBlock with
    | none => exact .inl rfl
    | some q => exact .inr fun e => by have := (World.ownsRow.lt z q hv).1; injection e with e; omega
  exact ⟨vs, World.ownsRow.kept h1 hk (ne h1), h2, fun i hi => World.ownsRow.kept (h3 i hi) hk (ne (h3 i hi))⟩
theorem na_at1_id (V : Nat → Value) (k : Nat) (r : Value) (h : V k = r) : na.at1 V k r = V := funext fun j => by
  unfold na.at1
  split
  · rename_i e; rw [e, h]
  · rfl
theorem at1_get (V : Nat → Value) (k : Nat) (r : Value) (hk : k < 4) : [na.at1 V k r 0, na.at1 V k r 1, na.at1 V k r 2, na.at1 V k r 3][k]? = some r := by
  have : k = 0 ∨ k = 1 ∨ k = 2 ∨ k = 3 := by omega
  rcases this with rfl | rfl | rfl | rfl <;> exact congrArg some (na.at1_same _ _ _)
theorem at1_set (V : Nat → Value) (k : Nat) (r u : Value) (hk : k < 4) : [na.at1 V k r 0, na.at1 V k r 1, na.at1 V k r 2, na.at1 V k r 3].set k u = [na.at1 V k u 0, na.at1 V k u 1, na.at1 V k u 2, na.at1 V k u 3] := by
  have : k = 0 ∨ k = 1 ∨ k = 2 ∨ k = 3 := by omega
  rcases this with rfl | rfl | rfl | rfl <;> rfl
theorem make4_law {ops : Array Oper} {rest : List Oper} {a : Act} {Q : Exit → Act → World → Prop} {d : Option Tmp} {ty : TypeId} {pos : String} {af : Array Edge} (w : World)
    (hK : ∀ w', Vr w' w.heap.size [.slice none 0 0, .slice none 0 0, .slice none 0 0, .slice none 0 0] → NoB w' w.heap.size → Below w.heap.size w w' → w.heap.size < w'.heap.size → wpList Tryz.prog ops Q rest (a.put d (.slice (some ⟨w.heap.size, 0, none⟩) 4 4)) w') :
    wpList Tryz.prog ops Q (⟨d, Op.makeSlice 90 (.const (.int .i64 4)) (.const (.int .i64 4)), ty, pos, af, none⟩ :: rest) a w := by
  refine wpList_plain rfl fun K hK' => ?_
  have hrun : (Instr.makeSlice 90 (.int .i64 4) (.int .i64 4)).run Tryz.prog w = .ok (.slice (some ⟨w.heap.size, 0, none⟩) 4 4) (w.alloc (.cells #[.slice none 0 0, .slice none 0 0, .slice none 0 0, .slice none 0 0] 68)) := by kernel_rfl
  unfold Oper.wp execOp
  simp only [Act.eval, hrun, Sem.run_bind, Sem.run_pure, Result.andThen_ok]
  refine hK' _ _ (hK _ (Vr.new w 68 [.slice none 0 0, .slice none 0 0, .slice none 0 0, .slice none 0 0]) (fun j y e => ?_) ((Below.refl _ _).alloc (Nat.le_refl _) _) (by simp))
  rw [cell_of_row _ w.heap.size j #[.slice none 0 0, .slice none 0 0, .slice none 0 0, .slice none 0 0] 68 (0, 0) (heap_alloc_last w _)] at e
  match j, e with
  | 0, e => cases e
  | 1, e => cases e
  | 2, e => cases e
  | 3, e => cases e
  | _ + 4, e => simp at e
section
variable {H : Ch} {M : Nat → Bool} {w : World} {s : na.St} {l : List na.Opn}
theorem read_cs (h : Cs H M w s l) (ho : na.off s = false) (k p : Nat) (hk : k < 4) (hp : p < H.P) : Calls Tryz.prog 63 #[.pointer (some ⟨H.c, 0, none⟩), .agg (ints .i64 [(k : Int), (p : Int)])] w fun e w' => ∃ ao cap, e = .returned (.tuple #[.slice ao H.T cap, .int .i64 0]) ∧ Own w.heap.size w' (.slice ao H.T cap) (na.pgs s k p) ∧ Below w.heap.size w w' := by
  obtain ⟨⟨tv, z1⟩, -, z3, -⟩ := h
  have hN := z1.num
  refine (na.read_own z1 [(k : Int), (p : Int)] rfl (by show (!na.off s) = true; rw [ho]; rfl) k p rfl rfl (by omega) hp).mono ?_
  rintro e w' ⟨v, h1, h2, h3⟩
  rw [na.raw_i, na.cut_page H.N H.P H.T s (fun b hb p hp => ((z3 b hb).1 p hp).1) k p (by omega) hp] at h2
  have z := (z3 k (by omega)).1 p hp
  obtain ⟨ao, cap, e2⟩ := pa.own_form h2 z.2.1
  rw [z.1] at e2
  subst e2
  exact ⟨ao, cap, h1, h2, h3⟩
theorem geo_cs (h : Cs H M w s l) : Calls Tryz.prog 31 #[.pointer (some ⟨H.c, 0, none⟩)] w fun e w' => e = .returned (.agg (ints .i64 H.g)) ∧ Below w.heap.size w w' := by
  obtain ⟨⟨tv, z1⟩, -⟩ := h
  exact na.geometry_any z1
theorem kblocks_any (h : Cs H M w s l) (ho : na.off s = false) :
    Calls Tryz.prog 40 #[.pointer (some ⟨H.c, 0, none⟩)] w fun e w' => ∃ v, e = .returned v ∧ Bks w' v ((List.range 4).map (bpg H.P s)) ∧ Below w.heap.size w w' := by
  have HC : Hid (Cs H M w s l ∧ na.off s = false) := ⟨h, ho⟩
  clear h ho
  go_enter Tryz.func40, Tryz.ntmps40
  have t0 := tR
  go_wp2_with (first
    | (have q0 := t0; refine make4_law _ ?_; intro w1 v9 n9 B9 l9; have HV : Hid (Vr w1 w.heap.size [.slice none 0 0, .slice none 0 0, .slice none 0 0, .slice none 0 0]) := v9; have HNB : Hid (NoB w1 w.heap.size) := n9; have BB : Hid (Below w.heap.size w w1 ∧ w.heap.size < w1.heap.size) := ⟨B9, l9⟩; clear v9 n9 B9 l9 t0; have t1 := tR))
  obtain ⟨G, eG⟩ : ∃ G, w.heap.size = G := ⟨_, rfl⟩
  have EG : Hid (w.heap.size = G) := eG
  rw [eG] at HV HNB ⊢
  clear eG
  go_loopw [11] (fun i wr => ∃ (k : Nat) (V : Nat → Value), k ≤ 4 ∧ i = .int .i64 (k : Int) ∧ Hid (Vr wr G [V 0, V 1, V 2, V 3]) ∧ Hid (NoB wr G) ∧ Hid (Below w.heap.size w wr ∧ G < wr.heap.size) ∧ Hid (∀ j, j < k → Pgk (G + 1) wr (V j) (na.pgs s j) H.P) ∧ Hid (∀ j, k ≤ j → V j = .slice none 0 0)) (fun i _ => 4 - (intOf i).toNat)
  case atStart => exact ⟨0, fun _ => .slice none 0 0, by omega, rfl, HV, HNB, by rw [← EG.out]; exact BB, fun j hj => absurd hj (by omega), fun _ _ => rfl⟩
  case round =>
    obtain ⟨k, V, hk, rfl, HV, HNB, HB, HR, HZ⟩ := hrel
    by_cases hlt : k < 4
    · have lk0 : (0 : Int) ≤ (k : Int) := by omega
      have lk1 : (k : Int) < 4 := by omega
      have lk2 : IntKind.i64.wrap ((k : Int) + 1) = (k : Int) + 1 := by rw [IntKind.wrap_i64]; omega
      have HK : Hid (k < 4) := hlt
      have SG : Hid (∀ w0, w0 = wr → Calls Tryz.prog 31 #[.pointer (some ⟨H.c, 0, none⟩)] w0 fun e w' => e = .returned (.agg #[.int .i64 (H.N : Int), .int .i64 (H.P : Int), .int .i64 (H.S : Int), .int .i64 H.g3, .int .i64 H.g4, .int .i64 H.g5]) ∧ Below w0.heap.size w0 w') := fun w0 e => by subst e; exact geo_cs (HC.out.1.below HB.out.1)
      have hP : H.P ≤ 32 := by obtain ⟨⟨tv, z1⟩, -⟩ := HC.out.1; exact z1.num.2.2.2.1
      obtain ⟨np, enp⟩ : ∃ np, H.P = np := ⟨_, rfl⟩
      have ENP : Hid (H.P = np) := enp
      rw [enp] at SG hP HR
      clear enp
      have qf : ∀ w' : World, (Instr.field 23 (.agg #[.int .i64 (H.N : Int), .int .i64 (np : Int), .int .i64 (H.S : Int), .int .i64 H.g3, .int .i64 H.g4, .int .i64 H.g5]) 1).run Tryz.prog w' = .ok (.int .i64 (np : Int)) w' := fun w' => by kernel_rfl
      have t0 := tR
      go_wp2_with (first
        | (have q0 := t0; go_at_call 31; refine (SG.out wr rfl).mono ?_; rintro e9 w2 ⟨rfl, B9⟩; have HV : Hid (Vr w2 G [V 0, V 1, V 2, V 3]) := HV.out.below B9 HB.out.2; have HNB : Hid (NoB w2 G) := HNB.out.heap (B9.block G HB.out.2); have HR : Hid (∀ j, j < k → Pgk (G + 1) w2 (V j) (na.pgs s j) np) := fun j hj => (HR.out j hj).below B9; have HB : Hid (Below w.heap.size w w2 ∧ G < w2.heap.size) := ⟨HB.out.1.trans (B9.mono HB.out.1.size), Nat.lt_of_lt_of_le HB.out.2 B9.size⟩; clear B9 t0; have t1 := tR))
      obtain ⟨wo, ewo⟩ : ∃ wo : World, wo = wr := ⟨_, rfl⟩
      go_loopw [17] (fun i wy => ∃ (n : Nat) (r : Value), n ≤ np ∧ i = .int .i64 (n : Int) ∧ Hid (Vr wy G [na.at1 V k r 0, na.at1 V k r 1, na.at1 V k r 2, na.at1 V k r 3]) ∧ Hid (NoB wy G) ∧ Hid (Below w.heap.size w wy ∧ G < wy.heap.size) ∧ Hid (w2.grownBy wy (some G)) ∧ Hid (Pgk w2.heap.size wy r (na.pgs s k) n)) (fun i _ => np - (intOf i).toNat)
      case atStart => exact ⟨0, .slice none 0 0, Nat.zero_le _, rfl, by rw [na_at1_id V k _ (HZ.out k (Nat.le_refl _))]; exact HV, HNB, HB, World.grownBy.refl _ _, Pgk.nil _ _ _⟩
      case round =>
        obtain ⟨n, r, hn, rfl, HV2, HNB2, HB2, HG2, HR2⟩ := hrel
        by_cases hnt : n < np
        · have ln1 : (n : Int) < (np : Int) := by omega
          have ln2 : IntKind.i64.wrap ((n : Int) + 1) = (n : Int) + 1 := by rw [IntKind.wrap_i64]; omega
          have HN : Hid (n < np ∧ np ≤ 32) := ⟨hnt, hP⟩
          have SR : Hid (∀ w0, w0 = wr → Calls Tryz.prog 63 #[.pointer (some ⟨H.c, 0, none⟩), .agg (ints .i64 [(k : Int), (n : Int)])] w0 fun e w' => ∃ ao cap, e = .returned (.tuple #[.slice ao H.T cap, .int .i64 0]) ∧ Own w0.heap.size w' (.slice ao H.T cap) (na.pgs s k n) ∧ Below w0.heap.size w0 w') := fun w0 e => by subst e; exact read_cs (HC.out.1.below HB2.out.1) HC.out.2 k n HK.out (by rw [ENP.out]; exact HN.out.1)
          obtain ⟨ro, rc, rfl⟩ := HR2.out.form
          have cg : ∀ w', Vr w' G [na.at1 V k (.slice ro n rc) 0, na.at1 V k (.slice ro n rc) 1, na.at1 V k (.slice ro n rc) 2, na.at1 V k (.slice ro n rc) 3] → w'.cell? ⟨G, k, none⟩ = some (.slice ro n rc) := fun w' z => z.cell k _ (at1_get V k _ HK.out)
          have CG : Hid (∀ w', Vr w' G [na.at1 V k (.slice ro n rc) 0, na.at1 V k (.slice ro n rc) 1, na.at1 V k (.slice ro n rc) 2, na.at1 V k (.slice ro n rc) 3] → w'.cell? ⟨G, k, none⟩ = some (.slice ro n rc)) := cg
          clear cg
          have t2 := tR
          go_wp2_with (first
            | (have q5 := t5; (with_reducible refine at_store ?_); refine set_lawK _ [na.at1 V k (.slice ro n rc) 0, na.at1 V k (.slice ro n rc) 1, na.at1 V k (.slice ro n rc) 2, na.at1 V k (.slice ro n rc) 3] G k (.slice fo (n + 1) fc) rfl rfl HV5.out HNB5.out HK.out rfl rfl (fun y z => by cases z) (by kernel_rfl) ?_; intro w6 v9 n9 B9 k9; rw [at1_set V k (.slice ro n rc) (.slice fo (n + 1) fc) HK.out] at v9; have HV6 : Hid (Vr w6 G [na.at1 V k (.slice fo (n + 1) fc) 0, na.at1 V k (.slice fo (n + 1) fc) 1, na.at1 V k (.slice fo (n + 1) fc) 2, na.at1 V k (.slice fo (n + 1) fc) 3]) := v9; have HNB6 : Hid (NoB w6 G) := n9; have gb6 : w5.grownBy w6 (some G) := ⟨B9.os, B9.tape, B9.output, B9.size, fun k _ q => k9 k fun e => q (by rw [e])⟩; have HR6 : Hid (Pgk w2.heap.size w6 (.slice fo (n + 1) fc) (na.pgs s k) (n + 1)) := pgk_keep HR5.out HB.out.2 gb6; have HG6 : Hid (w2.grownBy w6 (some G)) := gb_trans HG5.out gb6; have HB6 : Hid (Below w.heap.size w w6 ∧ G < w6.heap.size) := ⟨HB5.out.1.trans (B9.mono (by rw [EG.out]; exact Nat.le_refl _)), Nat.lt_of_lt_of_le HB5.out.2 B9.size⟩; clear v9 n9 B9 k9 gb6 t5; have t6 := tR)
            | (have q4 := t4; at_builtin; refine push_lawP _ rfl (.tmp 33) (.tmp 35) rfl w2.heap.size w3.heap.size HS4.out (.slice ro n rc) (.slice (some ⟨w3.heap.size, 0, none⟩) 1 1) (.slice ao H.T cap) (na.pgs s k) n rfl rfl HR4.out HO4.out HY4.out ⟨_, _, _, rfl⟩ (by have := HN.out; omega) ?_; intro fv w5 o9 B9 m9; obtain ⟨fo, fc, rfl⟩ := o9.form; have HR5 : Hid (Pgk w2.heap.size w5 (.slice fo (n + 1) fc) (na.pgs s k) (n + 1)) := o9; have HV5 : Hid (Vr w5 G [na.at1 V k (.slice ro n rc) 0, na.at1 V k (.slice ro n rc) 1, na.at1 V k (.slice ro n rc) 2, na.at1 V k (.slice ro n rc) 3]) := HV4.out.below B9 HB.out.2; have HNB5 : Hid (NoB w5 G) := HNB4.out.heap (B9.block G HB.out.2); have HG5 : Hid (w2.grownBy w5 (some G)) := ⟨B9.os.trans HG4.out.os, B9.tape.trans HG4.out.tape, B9.output.trans HG4.out.output, Nat.le_trans HG4.out.size B9.size, fun k hk q => (B9.block k hk).trans (HG4.out.block k hk q)⟩; have HB5 : Hid (Below w.heap.size w w5 ∧ G < w5.heap.size) := ⟨HB4.out.1.trans (B9.mono HB.out.1.size), Nat.lt_of_lt_of_le HB4.out.2 B9.size⟩; clear o9 B9 m9 t4; have t5 := tR)
            | (have q3 := t3; refine one_lawR _ rfl (.tmp 34) rfl (.slice ao H.T cap) ⟨_, _, _, rfl⟩ rfl ?_; intro w4 o9 B9; have HO4 : Hid (OwnR w3.heap.size w4 (.slice (some ⟨w3.heap.size, 0, none⟩) 1 1) [.slice ao H.T cap]) := o9; have HY4 : Hid (Own w2.heap.size w4 (.slice ao H.T cap) (na.pgs s k n)) := own_low HY3.out B9; have HV4 : Hid (Vr w4 G [na.at1 V k (.slice ro n rc) 0, na.at1 V k (.slice ro n rc) 1, na.at1 V k (.slice ro n rc) 2, na.at1 V k (.slice ro n rc) 3]) := HV3.out.below B9 HB3.out.2; have HNB4 : Hid (NoB w4 G) := HNB3.out.heap (B9.block G HB3.out.2); have HR4 : Hid (Pgk w2.heap.size w4 (.slice ro n rc) (na.pgs s k) n) := HR3.out.below B9; have HG4 : Hid (w2.grownBy w4 (some G)) := gb_trans HG3.out (gb_below B9 rfl); have HS4 : Hid (w2.heap.size ≤ w4.heap.size) := Nat.le_trans HG3.out.size B9.size; have HB4 : Hid (Below w.heap.size w w4 ∧ G < w4.heap.size) := ⟨HB3.out.1.trans (B9.mono HB3.out.1.size), Nat.lt_of_lt_of_le HB3.out.2 B9.size⟩; clear o9 B9 t3 c3; have t4 := tR)
            | (have q2 := t2; go_at_call 63; refine (SR.out wr rfl).mono ?_; rintro e9 w3 ⟨ao, cap, rfl, y9, B9⟩; have HY3 : Hid (Own w2.heap.size w3 (.slice ao H.T cap) (na.pgs s k n)) := own_less y9 HG2.out.size; have HV3 : Hid (Vr w3 G [na.at1 V k (.slice ro n rc) 0, na.at1 V k (.slice ro n rc) 1, na.at1 V k (.slice ro n rc) 2, na.at1 V k (.slice ro n rc) 3]) := HV2.out.below B9 HB2.out.2; have c3 := CG.out w3 HV3.out; have HNB3 : Hid (NoB w3 G) := HNB2.out.heap (B9.block G HB2.out.2); have HR3 : Hid (Pgk w2.heap.size w3 (.slice ro n rc) (na.pgs s k) n) := HR2.out.below B9; have HG3 : Hid (w2.grownBy w3 (some G)) := gb_trans HG2.out (gb_below B9 rfl); have HB3 : Hid (Below w.heap.size w w3 ∧ G < w3.heap.size) := ⟨HB2.out.1.trans (B9.mono HB2.out.1.size), Nat.lt_of_lt_of_le HB2.out.2 B9.size⟩; clear y9 B9 t2; have t3 := tR))
          go_roundw
          case rel => exact ⟨n + 1, .slice fo (n + 1) fc, by omega, by go_num, HV6, HNB6, HB6, HG6, HR6⟩
          case measure => simp [intOf]; omega
        · have en : n = np := by omega
          subst en
          go_wp2
          go_roundw
          case rel =>
            refine ⟨k + 1, na.at1 V k r, by omega, by go_num, HV2, HNB2, HB2, fun j hj => ?_, fun j hj => ?_⟩
            · by_cases e : j = k
              · subst e
                rw [na.at1_same, ENP.out]
                exact HR2.out.less HB.out.2
              · rw [na.at1_other _ _ _ _ e, ENP.out]
                exact pgk_keep (HR.out j (by omega)) (Nat.lt_succ_self _) HG2.out
            · rw [na.at1_other _ _ _ _ (by omega)]
              exact HZ.out j (by omega)
          case measure => simp [intOf]; omega
    · have ek : k = 4 := by omega
      subst ek
      go_wp2
      go_ret
      refine ⟨_, rfl, ⟨[V 0, V 1, V 2, V 3], ⟨_, 4, rfl, Nat.le_refl _, by omega, (by intro h; cases h), fun _ => ⟨G, 0, rfl, fun t ht => ?_⟩⟩, rfl, fun i hi => ?_⟩, HB.out.1⟩
      · have : t = 0 ∨ t = 1 ∨ t = 2 ∨ t = 3 := by simp at ht; omega
        rcases this with rfl | rfl | rfl | rfl <;> exact HV.out.cell _ _ rfl
      · have hi4 : i < 4 := by simpa using hi
        have e2 : ((List.range 4).map (bpg H.P s)).getD i [] = bpg H.P s i := by simp [List.getD, hi4]
        have e1 : [V 0, V 1, V 2, V 3].getD i undef = V i := by
          have : i = 0 ∨ i = 1 ∨ i = 2 ∨ i = 3 := by omega
          rcases this with rfl | rfl | rfl | rfl <;> rfl
        rw [e1, e2]
        obtain ⟨vs, z1, z2, z3⟩ := HR.out i hi4
        refine ⟨vs, z1.vals, by rw [z2]; simp [bpg], fun t ht => ?_⟩
        have ht' : t < H.P := by simpa [bpg] using ht
        rw [show (bpg H.P s i).getD t [] = na.pgs s i t by simp [bpg, List.getD, ht']]
        exact (z3 t ht').byt (((HC.out.1.2.2.1 i (by have := HC.out.1; obtain ⟨⟨tv, y⟩, -⟩ := this; have := y.num; omega)).1 t ht').2.1)
end
end Go.Proofs.YtakibiigcdgohaaGreatDoor.vb
namespace Go.Proofs.YtakibiigcdgohaaGreatDoor.ck
open Go.RowKit Go.Proofs.YtakibiigcdgohaaGreatDoor.fa Go.Proofs.YtakibiigcdgohaaGreatDoor.he Go.Proofs.YtakibiigcdgohaaGreatDoor.pa
set_option maxRecDepth 20000
def Dn (S : Nat) (ys : List Int) : Prop := ys.length = S + 88 ∧ Tl (ys.drop S) ∧ Kcm S ys ∧ qk (ys.drop S) = 4
def Pg9 (pg : List Value) (G : Int) : Prop := pg.length = 9 ∧ (∀ v ∈ pg, v.oneCell' = true) ∧ pg[4]? = some (.int .u64 G)
theorem pg9_z : Pg9 Z9 0 := ⟨rfl, pg9_one _ _ _ _ _ _ _ _ _ _ _ _ _, rfl⟩
theorem exec_neq0 {ev : Operand → Value} {o : Oper} (x : Operand) (hop : o.op = Op.binOp .neq 31 x (.const (.int .i64 0)) 31) (E : Int) (hx : ev x = .int .i64 E) (hc : ev (.const (.int .i64 0)) = .int .i64 0) (b : Bool) (hb : (E != 0) = b) (w : World) : (execOp ev o).run Tryz.prog w = .ok (.value (.bool b)) w := by
  subst hb
  unfold execOp
  simp only [hop, hx, hc]
  rfl
theorem range_head {w : World} {g : Nat} {k n c l e t : Int} {pv tv : Value} {d : Bool} (h : w.rangeAt g 0 (pg9 k n c l e t pv tv d)) : w.rangeAt g 0 (hv k n c l e t) := fun j v hj => by
  refine h j v ?_
  have hl : j < (hv k n c l e t).length := (List.getElem?_eq_some_iff.1 hj).1
  rw [show pg9 k n c l e t pv tv d = hv k n c l e t ++ [pv, tv, .bool d] from rfl, List.getElem?_append_left hl]
  exact hj
theorem done_all (g0 g1 g3 g4 g5 : Int) (S : Nat) (v : Value) (ys : List Int) (w : World) (hr : ge.Rt [g0, g1, (S : Int), g3, g4, g5]) (hb : Byt w v ys) (hT : Tab w) (D : Bool) (hD : D = true ↔ Dn S ys) :
    Calls Tryz.prog 80 #[.agg (ints .i64 [g0, g1, (S : Int), g3, g4, g5]), v, .int .i64 4] w fun x w' => (∃ pg, x = .returned (.tuple #[.agg pg.toArray, .bool D]) ∧ Pg9 pg (if D = true then qe (ys.drop S) else 0)) ∧ Below w.heap.size w w' := by
  have no : ∀ (x : Ending) w', D = false → (x = .returned (.tuple #[.agg Z9.toArray, .bool false]) ∧ Below w.heap.size w w') → (∃ pg, x = .returned (.tuple #[.agg pg.toArray, .bool D]) ∧ Pg9 pg (if D = true then qe (ys.drop S) else 0)) ∧ Below w.heap.size w w' := by
    rintro x w' rfl ⟨rfl, hB⟩
    exact ⟨⟨Z9, rfl, pg9_z⟩, hB⟩
  have nd : ¬ Dn S ys → D = false := fun h => by
    cases D with
    | false => rfl
    | true => exact absurd (hD.1 rfl) h
  by_cases h1 : ys.length = S + 88
  · by_cases h2 : Tl (ys.drop S)
    · have hR := fun w0 (q : Below w.heap.size w w0) => read_page g0 g1 g3 g4 g5 S v ys w0 (hb.below q) hr h1 (hT.below q) h2
      by_cases h3 : (ys.drop S).drop 80 = List.replicate 8 0
      · have h3' := decide_eq_true h3
        by_cases h4 : qk (ys.drop S) = 4
        · have hd : D = true := hD.2 ⟨h1, h2, h3, h4⟩
          subst hd
          refine (done_ok g0 g1 g3 g4 g5 S v 4 w _ _ _ _ _ _ _ _ _ h3' h4 hR).mono ?_
          rintro x w' ⟨po, pc, uo, uc, rfl, -, -, hB⟩
          exact ⟨⟨_, rfl, rfl, pg9_one _ _ _ _ _ _ _ _ _ _ _ _ _, rfl⟩, hB⟩
        · exact (done_un1 g0 g1 g3 g4 g5 S v 4 w _ _ _ _ _ _ _ _ _ h3' h4 hR).mono fun x w' h => no x w' (nd fun z => h4 z.2.2.2) h
      · exact (done_un0 g0 g1 g3 g4 g5 S v 4 w _ _ _ _ _ _ _ _ _ (decide_eq_false h3) hR).mono fun x w' h => no x w' (nd fun z => h3 z.2.2.1) h
    · exact (done_err g0 g1 (S : Int) g3 g4 g5 v 4 w 1 (by decide) fun w0 q => read_none g0 g1 g3 g4 g5 S v ys w0 (hb.below q) hr h1 (hT.below q) h2).mono fun x w' h => no x w' (nd fun z => h2 z.2.1) h
  · exact (done_err g0 g1 (S : Int) g3 g4 g5 v 4 w 2 (by decide) fun w0 q => read_not g0 g1 g3 g4 g5 S v ys w0 (hb.below q) fun z => h1 z.2).mono fun x w' h => no x w' (nd fun z => h1 z.1) h
theorem read_bad (g0 g1 g3 g4 g5 : Int) (S : Nat) (v : Value) (ys : List Int) (w : World) (hr : ge.Rt [g0, g1, (S : Int), g3, g4, g5]) (hb : Byt w v ys) (hT : Tab w) (h : ¬ (ys.length = S + 88 ∧ Tl (ys.drop S))) :
    Calls Tryz.prog 81 #[.agg (ints .i64 [g0, g1, (S : Int), g3, g4, g5]), v] w fun x w' => ∃ E, x = .returned (.tuple #[.agg Z9.toArray, .int .i64 E]) ∧ E ≠ 0 ∧ Below w.heap.size w w' := by
  by_cases h1 : ys.length = S + 88
  · exact (read_none g0 g1 g3 g4 g5 S v ys w hb hr h1 hT fun q => h ⟨h1, q⟩).mono fun x w' ⟨e, hB⟩ => ⟨1, e, by decide, hB⟩
  · exact (read_not g0 g1 g3 g4 g5 S v ys w hb fun z => h1 z.2).mono fun x w' ⟨e, hB⟩ => ⟨2, e, by decide, hB⟩
def glast (S : Nat) (ls : List (List Int)) : Int := qe ((ls.getD (nc S - 1) []).drop S)
theorem khd_last {S : Nat} {ls : List (List Int)} (h1 : 1 ≤ nc S) : Khd S ls ↔ nc S ≤ ls.length ∧ (∀ i, i < nc S → Kpg S (glast S ls) i (ls.getD i [])) ∧ Kcm S (ls.getD (nc S - 1) []) := by
  refine ⟨fun h => ?_, fun h => ?_⟩
  · have e : glast S ls = kgen S ls := (h.2.1 (nc S - 1) (by omega)).2.2.2.2.2.2.1
    rw [e]; exact h
  · have e : kgen S ls = glast S ls := (h.2.1 0 (by omega)).2.2.2.2.2.2.1
    refine ⟨h.1, ?_, h.2.2⟩
    rw [e]; exact h.2.1
theorem kgen_last {S : Nat} {ls : List (List Int)} (h1 : 1 ≤ nc S) (h : Khd S ls) : glast S ls = kgen S ls := (h.2.1 (nc S - 1) (by omega)).2.2.2.2.2.2.1
def HoldIs (S : Nat) (ls : List (List Int)) (x : Ending) (w' : World) : Prop :=
  (Khd S ls ∧ ∃ ro rc, x = .returned (.tuple #[.int .u64 (kgen S ls), .slice ro 624 rc, .bool true]) ∧ Byt w' (.slice ro 624 rc) (krec S ls)) ∨
  (¬ Khd S ls ∧ x = .returned (.tuple #[.int .u64 0, .slice none 0 0, .bool false]))
end Go.Proofs.YtakibiigcdgohaaGreatDoor.ck
