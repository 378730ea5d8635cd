/- Of a record that is written over another one of a lesser generation, whatever fails, and wherever the power goes, but that no scrub is done half: an Open behind it finds the one that was, or the one that was written; the one that was written, if the answer was none but OK. No condition. -/
import Derived.Test.YtakibiigcdgohaaGreatDoorCards
import Derived.Test.YtakibiigcdgohaaGreatDoorTie
import Derived.Test.YtakibiigcdgohaaGreatDoorC00
import Derived.Test.YtakibiigcdgohaaGreatDoorC01
import Derived.Test.YtakibiigcdgohaaGreatDoorC02
import Derived.Test.YtakibiigcdgohaaGreatDoorC03
import Derived.Test.YtakibiigcdgohaaGreatDoorC04
import Derived.Test.YtakibiigcdgohaaGreatDoorC05
import Derived.Test.YtakibiigcdgohaaGreatDoorC06
import Derived.Test.YtakibiigcdgohaaGreatDoorC07
import Derived.Test.YtakibiigcdgohaaGreatDoorC08
import Derived.Test.YtakibiigcdgohaaGreatDoorC09
import Derived.Test.YtakibiigcdgohaaGreatDoorC10
import Derived.Test.YtakibiigcdgohaaGreatDoorC11
import Derived.Test.YtakibiigcdgohaaGreatDoorC12
import Derived.Test.YtakibiigcdgohaaGreatDoorC13
import Derived.Test.YtakibiigcdgohaaGreatDoorC14
import Derived.Test.YtakibiigcdgohaaGreatDoorC15
import Derived.Test.YtakibiigcdgohaaGreatDoorC16
import Derived.Test.YtakibiigcdgohaaGreatDoorC17
import Derived.Test.YtakibiigcdgohaaGreatDoorC18
import Derived.Test.YtakibiigcdgohaaGreatDoorC19
import Derived.Test.YtakibiigcdgohaaGreatDoorC20
import Derived.Test.YtakibiigcdgohaaGreatDoorC21
import Derived.Test.YtakibiigcdgohaaGreatDoorC22
import Derived.Test.YtakibiigcdgohaaGreatDoorC23
import Derived.Test.YtakibiigcdgohaaGreatDoorC24
import Derived.Test.YtakibiigcdgohaaGreatDoorC25
import Derived.Test.YtakibiigcdgohaaGreatDoorC26
import Derived.Test.YtakibiigcdgohaaGreatDoorC27
namespace Go.Proofs.YtakibiigcdgohaaGreatDoor.keyboxCrashes
open Go.ChangeShapes Go.WideShapes Go.ChangeAt Go.RowKit Go.Proofs.YtakibiigcdgohaaGreatDoor.vb Go.Proofs.YtakibiigcdgohaaGreatDoor.ck Go.Proofs.YtakibiigcdgohaaGreatDoor.pa Go.Proofs.YtakibiigcdgohaaGreatDoor.he Go.Proofs.YtakibiigcdgohaaGreatDoor.fa
set_option maxRecDepth 20000
theorem walk (g : List Int) (v : Value) (fs : List (Int × Bool × Value)) (ms : Nat → List Int) (l : List Nat) (w : World) (hg : g.length = 6) (hf : Fls w v fs) (hm : Mks w fs ms) (h2 : l.length = 2) (hl : ∀ x ∈ l, x < 256) (hT : Tab w) :
    Calls Tryz.prog 4 #[.agg (ints .i64 g), v, .agg (l.map fun x : Nat => Value.int .u8 (x : Int)).toArray] w fun x w' => x = .returned (.bool true) ∧ Below w.heap.size w w' := by
  obtain ⟨g0, g1, g2, g3, g4, g5, rfl⟩ : ∃ g0 g1 g2 g3 g4 g5, g = [g0, g1, g2, g3, g4, g5] := by
    match g, hg with
    | [a, b, c, d, e, f], _ => exact ⟨a, b, c, d, e, f, rfl⟩
  obtain ⟨sa, sb, rfl⟩ : ∃ sa sb, l = [sa, sb] := by
    match l, h2 with
    | [a, b], _ => exact ⟨a, b, rfl⟩
  have ha : 0 ≤ (sa : Int) ∧ (sa : Int) ≤ 255 := by have := hl sa (by simp); omega
  have hb : 0 ≤ (sb : Int) ∧ (sb : Int) ≤ 255 := by have := hl sb (by simp); omega
  obtain ⟨po, pc, rfl⟩ : ∃ po pc, v = .slice po fs.length pc := by
    obtain ⟨ao, cap, e, -⟩ := hf
    exact ⟨ao, cap, e⟩
  by_cases hc : ge.Rt [g0, g1, g2, g3, g4, g5] ∧ g0 ≤ 12 ∧ g1 ≤ 20 ∧ g2 ≤ 128
  · by_cases hk : fs.length ≤ 64 ∧ Okp fs ms fs.length
    · by_cases hn : fs.length ≤ 10
      · have k0 := hc.1.1.1
        have k1 := hc.1.1.2.1
        have k2 := hc.1.1.2.2.1
        obtain ⟨N, rfl⟩ : ∃ N : Nat, g0 = (N : Int) := ⟨g0.toNat, by have : gb [g0, g1, g2, g3, g4, g5] 0 = g0 := rfl; omega⟩
        obtain ⟨P, rfl⟩ : ∃ P : Nat, g1 = (P : Int) := ⟨g1.toNat, by have : gb [(N : Int), g1, g2, g3, g4, g5] 1 = g1 := rfl; omega⟩
        obtain ⟨S, rfl⟩ : ∃ S : Nat, g2 = (S : Int) := ⟨g2.toNat, by have : gb [(N : Int), (P : Int), g2, g3, g4, g5] 2 = g2 := rfl; omega⟩
        exact cr_D N P S g3 g4 g5 po pc fs ms sa sb w hf hm hT ha hb hc hk hn
      · exact cr_C g0 g1 g2 g3 g4 g5 po pc fs ms sa sb w hf hm hT hc hk hn
    · exact cr_B g0 g1 g2 g3 g4 g5 po pc fs ms sa sb w hf hm hT hc hk
  · exact cr_A g0 g1 g2 g3 g4 g5 po pc fs sa sb w hT hc
theorem params : ∀ t ∈ Tryz.f4.params.toList, Tryz.prog.readableRec t = true ∧ t < Tryz.prog.types.size := by
  rw [Tryz.params4]
  intro t ht
  simp at ht
  rcases ht with rfl | rfl | rfl
  · exact ⟨by kernel_rfl, of_decide_eq_true (by kernel_rfl)⟩
  · exact ⟨by kernel_rfl, of_decide_eq_true (by kernel_rfl)⟩
  · exact ⟨by kernel_rfl, of_decide_eq_true (by kernel_rfl)⟩
theorem contract (H : Type) (enc : TypeId × Value → H) (W : World) (base : Nat) (args : Array Value) (ds gs : List (DataW H)) (before : List MemPlace)
    (hval : ∀ (j : Nat) t v, Tryz.f4.params[j]? = some t → args[j]? = some v → Value.okWide Tryz.prog W .any base t v)
    (hW : DataW.Whole enc Tryz.prog Tryz.f4.params.toList Rows.keyboxCrashesSpec.vars false W args.toList ds gs before) (hL : laidMetH Tryz.prog Rows.keyboxCrashesRow.laid W)
    (hsz : (DataW.weightsEach Tryz.prog (Tryz.f4.params.toList ++ (OpenSpec.ofChange Rows.keyboxCrashesSpec).bare.plain.varTypes Tryz.prog) (ds ++ gs)).all (· ≤ reachBytes) = true) :
    Calls Tryz.prog 4 args W fun e W' => ∃ v, e = .returned v ∧ Rows.keyboxCrashesSpec.post enc Tryz.prog Tryz.f4 false true false false W args v W' := by
  have hW' := hW
  obtain ⟨p, q, hA0, hV, rfl, hfz, hnd⟩ := hW
  have hA : DataW.TrodAll enc Tryz.prog W 0 (fun _ => true) true Tryz.f4.params.toList args.toList ds p := hA0
  rw [Tryz.params4] at hA hval
  obtain ⟨v0, v1, v2, d0, d1, d2, p0, p1, p2, rfl, rfl, rfl, h0, h1, h2⟩ := trodAll_three hA
  obtain ⟨rfl, rfl⟩ := trodVars_none hV
  obtain ⟨g0, rfl, n0⟩ := ge.geo_open (hval 0 23 v0 rfl rfl) h0
  obtain ⟨fs1, ms1, b1, c1⟩ := fa.faults_open (hval 1 24 v1 rfl rfl) h1 (fun n hn => by have := List.all_eq_true.1 hsz n (DataW.weights_mem_each (j := 1) (t := 24) (d := d1) (by rw [Tryz.params4]; rfl) rfl n hn); simpa using this)
  obtain ⟨l2, rfl, n2, o2⟩ := arr_open Tryz.underlying59 (by kernel_rfl) (hval 2 59 v2 rfl rfl) h2
  clear hA0
  refine (walk g0 v1 fs1 ms1 l2 W n0 b1 c1 n2 o2 (table hL)).mono fun e W' ⟨he, hg⟩ => ?_
  subst he
  exact ⟨_, rfl, post_law rfl (by kernel_rfl) params rfl rfl rfl hW' hg⟩
theorem laid_met (os : Os) : laidMet Tryz.prog Rows.keyboxCrashesRow.laid (({ World.holding Tryz.prog os ⟨#[], #[], []⟩ with heap := (World.holding Tryz.prog os ⟨#[], #[], []⟩).heap.modify 1 fun | .cells _ t frozen => .cells #[.int .i64 1, .int .i64 1, .int .i64 1, .int .i64 1, .int .i64 4, .int .i64 8, .int .i64 8] t frozen | o => o } : World).forCall (fun _ _ => 0) ⟨#[], #[.agg #[.int .i64 0, .int .i64 0, .int .i64 0, .int .i64 0, .int .i64 0, .int .i64 0], .slice none 0 0, .agg #[.int .u8 0, .int .u8 0]], []⟩).memory :=
  laidMet_of_run' 8 (by kernel_rfl) (by kernel_rfl)
theorem reads (os : Os) {H : Type} (enc : TypeId × Value → H) : ∃ places, DataW.whole enc Tryz.prog (({ World.holding Tryz.prog os ⟨#[], #[], []⟩ with heap := (World.holding Tryz.prog os ⟨#[], #[], []⟩).heap.modify 1 fun | .cells _ t frozen => .cells #[.int .i64 1, .int .i64 1, .int .i64 1, .int .i64 1, .int .i64 4, .int .i64 8, .int .i64 8] t frozen | o => o } : World).forCall (fun _ _ => 0) ⟨#[], #[.agg #[.int .i64 0, .int .i64 0, .int .i64 0, .int .i64 0, .int .i64 0, .int .i64 0], .slice none 0 0, .agg #[.int .u8 0, .int .u8 0]], []⟩).memory Tryz.f4.params.toList Rows.keyboxCrashesSpec.vars false #[Value.agg #[.int .i64 0, .int .i64 0, .int .i64 0, .int .i64 0, .int .i64 0, .int .i64 0], Value.slice none 0 0, Value.agg #[.int .u8 0, .int .u8 0]].toList 8 = some ([.agg [.lit (.int .i64 0), .lit (.int .i64 0), .lit (.int .i64 0), .lit (.int .i64 0), .lit (.int .i64 0), .lit (.int .i64 0)], .nil, .agg [.lit (.int .u8 0), .lit (.int .u8 0)]], [], places) :=
  ⟨[], by kernel_rfl⟩
set_option maxRecDepth 100000 in
theorem lifted (os : Os) (started : os.Started) (H : Type) (enc : TypeId × Value → H) (F : Stop.Interp) :
    ReturnsInHanded {} Tryz.checked os 4 .any ((OpenSpec.ofChange Rows.keyboxCrashesSpec).preRow enc Tryz.prog Tryz.f4 Rows.keyboxCrashesRow.domain false Rows.keyboxCrashesRow.laid) (((OpenSpec.ofChange Rows.keyboxCrashesSpec).at F).post enc Tryz.prog Tryz.f4 false true false false) := by
  obtain ⟨places, hx⟩ := reads os enc
  refine returnsInHanded_of_row (C := Tryz.checked) (s := OpenSpec.ofChange Rows.keyboxCrashesSpec) own started (by kernel_rfl) Tryz.func4
    (witness_row_at (enc := enc) (C := Tryz.checked) false ({ World.holding Tryz.prog os ⟨#[], #[], []⟩ with heap := (World.holding Tryz.prog os ⟨#[], #[], []⟩).heap.modify 1 fun | .cells _ t frozen => .cells #[.int .i64 1, .int .i64 1, .int .i64 1, .int .i64 1, .int .i64 4, .int .i64 8, .int .i64 8] t frozen | o => o } : World) #[.agg #[.int .i64 0, .int .i64 0, .int .i64 0, .int .i64 0, .int .i64 0, .int .i64 0], .slice none 0 0, .agg #[.int .u8 0, .int .u8 0]] rfl (by kernel_rfl) (by kernel_rfl) (by kernel_rfl)
      (OpenSpec.preRow_of_cond 8 hx (by kernel_rfl) (fun k hk => by cases hk) (by kernel_rfl) (laid_met os))) ?_
  intro W base args ds gs before hval hW _ _ hsz hL _ _
  exact contract H enc W base args ds gs before hval hW hL hsz
theorem said : Rows.KeyboxCrashesSaid :=
  OpenClaim.holds_of_cond 4 Tryz.f4 rfl rfl rfl rfl rfl rfl rfl ⟨rfl, rfl, rfl, rfl, rfl⟩ rfl rfl rfl rfl rfl (by kernel_rfl) Tryz.func4 (by kernel_rfl)
    (of_decide_eq_true (by kernel_rfl)) (by unfold Func.isWrapper; first | (rw [if_pos (by decide +kernel)]; kernel_rfl) | (rw [if_neg (by decide +kernel)]; exact ⟨rfl, rfl⟩))
    (fun os started H enc _ F => by rw [OpenClaim.pre_eq_preRow]; exact lifted os started H enc F)
theorem plain (f : FuncId) (fn : Func) (hf : Tryz.pinned.checked.prog.funcNamed "nepenthe/nepenthelaw20.KeyboxCrashes" = some f) (hfn : Tryz.pinned.checked.prog.funcs[f]? = some fn) :
    false = Tryz.pinned.checked.prog.looks [] ∧ ∀ (j : Nat) t, fn.params[j]? = some t → Tryz.pinned.checked.prog.wantsStandIn t = false := by
  obtain rfl : f = 4 := Option.some.inj ((show Tryz.prog.funcNamed "nepenthe/nepenthelaw20.KeyboxCrashes" = some 4 by kernel_rfl).symm.trans hf) |>.symm
  obtain rfl : fn = Tryz.f4 := (Option.some.inj (Tryz.func4.symm.trans hfn)).symm
  refine ⟨by kernel_rfl, fun j t ht => ?_⟩
  rw [Tryz.params4] at ht
  have hm := Array.mem_of_getElem? ht
  simp at hm
  rcases hm with rfl | rfl | rfl
  · exact (show Tryz.prog.wantsStandIn 23 = false by kernel_rfl)
  · exact (show Tryz.prog.wantsStandIn 24 = false by kernel_rfl)
  · exact (show Tryz.prog.wantsStandIn 59 = false by kernel_rfl)
end Go.Proofs.YtakibiigcdgohaaGreatDoor.keyboxCrashes
namespace Go.Proofs.YtakibiigcdgohaaGreatDoor
theorem keyboxCrashes_card : Rows.KeyboxCrashesCardSaid :=
  Claim7.holds_tied_plain_at .later [] _ _ _ _ keyboxCrashes.said (fun _ h => by cases h) (by kernel_rfl) (fun _ h => by cases h) keyboxCrashes_row_tie rfl ⟨rfl, rfl⟩ (by kernel_rfl) rfl keyboxCrashes.plain (by kernel_rfl)
end Go.Proofs.YtakibiigcdgohaaGreatDoor
