/- Behind a Commit without an error, if no block leaks, no other key block has anything but 0xff, or noughts; whatever it answers, it takes no more operations than it may: of any geometry that is right and small, any plan, any records. Of any other: that the program answers. No condition. -/
import Derived.Test.YtakibiigcdgohaaGreatDoorCards
import Derived.Test.YtakibiigcdgohaaGreatDoorTie
import Derived.Test.YtakibiigcdgohaaGreatDoorD00
import Derived.Test.YtakibiigcdgohaaGreatDoorD01
import Derived.Test.YtakibiigcdgohaaGreatDoorD02
import Derived.Test.YtakibiigcdgohaaGreatDoorD03
import Derived.Test.YtakibiigcdgohaaGreatDoorD04
import Derived.Test.YtakibiigcdgohaaGreatDoorD05
import Derived.Test.YtakibiigcdgohaaGreatDoorD06
import Derived.Test.YtakibiigcdgohaaGreatDoorD07
import Derived.Test.YtakibiigcdgohaaGreatDoorD08
import Derived.Test.YtakibiigcdgohaaGreatDoorD09
import Derived.Test.YtakibiigcdgohaaGreatDoorD10
import Derived.Test.YtakibiigcdgohaaGreatDoorD11
import Derived.Test.YtakibiigcdgohaaGreatDoorD12
import Derived.Test.YtakibiigcdgohaaGreatDoorD13
import Derived.Test.YtakibiigcdgohaaGreatDoorD14
import Derived.Test.YtakibiigcdgohaaGreatDoorD15
import Derived.Test.YtakibiigcdgohaaGreatDoorD16
import Derived.Test.YtakibiigcdgohaaGreatDoorD17
import Derived.Test.YtakibiigcdgohaaGreatDoorD18
import Derived.Test.YtakibiigcdgohaaGreatDoorD19
import Derived.Test.YtakibiigcdgohaaGreatDoorD20
import Derived.Test.YtakibiigcdgohaaGreatDoorD21
import Derived.Test.YtakibiigcdgohaaGreatDoorD22
import Derived.Test.YtakibiigcdgohaaGreatDoorD23
import Derived.Test.YtakibiigcdgohaaGreatDoorD24
import Derived.Test.YtakibiigcdgohaaGreatDoorD25
namespace Go.Proofs.YtakibiigcdgohaaGreatDoor.keyboxGone
open Go.ChangeShapes Go.WideShapes Go.ChangeAt Go.RowKit Go.Proofs.YtakibiigcdgohaaGreatDoor.vb Go.Proofs.YtakibiigcdgohaaGreatDoor.ck Go.Proofs.YtakibiigcdgohaaGreatDoor.pa Go.Proofs.YtakibiigcdgohaaGreatDoor.he Go.Proofs.YtakibiigcdgohaaGreatDoor.fa
set_option maxRecDepth 20000
theorem walk (g : List Int) (pv sv : Value) (fs : List (Int × Bool × Value)) (ms : Nat → List Int) (ts : List Kst) (w : World) (hg : g.length = 6) (hf : Fls w pv fs) (hm : Mks w fs ms) (hst : Ksts w sv ts) (hT : Tab w) :
    Calls Tryz.prog 5 #[.agg (g.map (Value.int .i64) ++ [pv, sv]).toArray] w fun x w' => x = .returned (.bool true) ∧ Below w.heap.size w w' := by
  obtain ⟨g0, g1, g2, g3, g4, g5, rfl⟩ : ∃ g0 g1 g2 g3 g4 g5, g = [g0, g1, g2, g3, g4, g5] := by
    match g, hg with
    | [a, b, c, d, e, f], _ => exact ⟨a, b, c, d, e, f, rfl⟩
  obtain ⟨po, pc, rfl⟩ : ∃ po pc, pv = .slice po fs.length pc := by
    obtain ⟨ao, cap, e, -⟩ := hf
    exact ⟨ao, cap, e⟩
  obtain ⟨so, sc, rfl⟩ : ∃ so sc, sv = .slice so ts.length sc := by
    obtain ⟨⟨ao, cap, e, -⟩, -⟩ := hst
    rw [List.length_map] at e
    exact ⟨ao, cap, e⟩
  by_cases hc : ge.Rt [g0, g1, g2, g3, g4, g5] ∧ (fs.length ≤ 64 ∧ Okp fs ms fs.length) ∧ g0 ≤ 12 ∧ g1 ≤ 20 ∧ g2 ≤ 128 ∧ (ts.length : Int) ≤ 8
  · have k0 := hc.1.1.1
    have k1 := hc.1.1.2.1
    have k2 := hc.1.1.2.2.1
    obtain ⟨N, rfl⟩ : ∃ N : Nat, g0 = (N : Int) := ⟨g0.toNat, by have : gb [g0, g1, g2, g3, g4, g5] 0 = g0 := rfl; omega⟩
    obtain ⟨P, rfl⟩ : ∃ P : Nat, g1 = (P : Int) := ⟨g1.toNat, by have : gb [(N : Int), g1, g2, g3, g4, g5] 1 = g1 := rfl; omega⟩
    obtain ⟨S, rfl⟩ : ∃ S : Nat, g2 = (S : Int) := ⟨g2.toNat, by have : gb [(N : Int), (P : Int), g2, g3, g4, g5] 2 = g2 := rfl; omega⟩
    exact gn_D N P S g3 g4 g5 po so pc _ _ sc fs ms ts w rfl rfl hf hm hst hT hc
  · exact gn_A g0 g1 g2 g3 g4 g5 po so pc _ _ sc fs ms w rfl hf hm hT hc
theorem params : ∀ t ∈ Tryz.f5.params.toList, Tryz.prog.readableRec t = true ∧ t < Tryz.prog.types.size := by
  rw [Tryz.params5]
  intro t ht
  simp at ht
  subst ht
  exact ⟨by kernel_rfl, of_decide_eq_true (by kernel_rfl)⟩
theorem contract (H : Type) (enc : TypeId × Value → H) (W : World) (base : Nat) (args : Array Value) (ds gs : List (DataW H)) (before : List MemPlace)
    (hval : ∀ (j : Nat) t v, Tryz.f5.params[j]? = some t → args[j]? = some v → Value.okWide Tryz.prog W .any base t v)
    (hW : DataW.Whole enc Tryz.prog Tryz.f5.params.toList Rows.keyboxGoneSpec.vars false W args.toList ds gs before) (hL : laidMetH Tryz.prog Rows.keyboxGoneRow.laid W)
    (hsz : (DataW.weightsEach Tryz.prog (Tryz.f5.params.toList ++ (OpenSpec.ofChange Rows.keyboxGoneSpec).bare.plain.varTypes Tryz.prog) (ds ++ gs)).all (· ≤ reachBytes) = true) :
    Calls Tryz.prog 5 args W fun e W' => ∃ v, e = .returned v ∧ Rows.keyboxGoneSpec.post enc Tryz.prog Tryz.f5 false true false false W args v W' := by
  have hW' := hW
  obtain ⟨p, q, hA0, hV, rfl, hfz, hnd⟩ := hW
  have hA : DataW.TrodAll enc Tryz.prog W 0 (fun _ => true) true Tryz.f5.params.toList args.toList ds p := hA0
  rw [Tryz.params5] at hA hval
  obtain ⟨v0, d0, rfl, rfl, h0⟩ := trodAll_one hA
  obtain ⟨rfl, rfl⟩ := trodVars_none hV
  obtain ⟨g0, pv0, sv0, fs0, ms0, ts0, rfl, n0, b0, c0, e0⟩ := vb.case_open (hval 0 27 v0 rfl rfl) h0 (fun n hn => by have := List.all_eq_true.1 hsz n (DataW.weights_mem_each (j := 0) (t := 27) (d := d0) (by rw [Tryz.params5]; rfl) rfl n hn); simpa using this)
  clear hA0
  refine (walk g0 pv0 sv0 fs0 ms0 ts0 W n0 b0 c0 e0 (table hL)).mono fun e W' ⟨he, hg⟩ => ?_
  subst he
  exact ⟨_, rfl, post_law rfl (by kernel_rfl) params rfl rfl rfl hW' hg⟩
theorem laid_met (os : Os) : laidMet Tryz.prog Rows.keyboxGoneRow.laid (({ World.holding Tryz.prog os ⟨#[], #[], []⟩ with heap := (World.holding Tryz.prog os ⟨#[], #[], []⟩).heap.modify 1 fun | .cells _ t frozen => .cells #[.int .i64 1, .int .i64 1, .int .i64 1, .int .i64 1, .int .i64 4, .int .i64 8, .int .i64 8] t frozen | o => o } : World).forCall (fun _ _ => 0) ⟨#[], #[.agg #[.int .i64 0, .int .i64 0, .int .i64 0, .int .i64 0, .int .i64 0, .int .i64 0, .slice none 0 0, .slice none 0 0]], []⟩).memory :=
  laidMet_of_run' 8 (by kernel_rfl) (by kernel_rfl)
theorem reads (os : Os) {H : Type} (enc : TypeId × Value → H) : ∃ places, DataW.whole enc Tryz.prog (({ World.holding Tryz.prog os ⟨#[], #[], []⟩ with heap := (World.holding Tryz.prog os ⟨#[], #[], []⟩).heap.modify 1 fun | .cells _ t frozen => .cells #[.int .i64 1, .int .i64 1, .int .i64 1, .int .i64 1, .int .i64 4, .int .i64 8, .int .i64 8] t frozen | o => o } : World).forCall (fun _ _ => 0) ⟨#[], #[.agg #[.int .i64 0, .int .i64 0, .int .i64 0, .int .i64 0, .int .i64 0, .int .i64 0, .slice none 0 0, .slice none 0 0]], []⟩).memory Tryz.f5.params.toList Rows.keyboxGoneSpec.vars false #[Value.agg #[.int .i64 0, .int .i64 0, .int .i64 0, .int .i64 0, .int .i64 0, .int .i64 0, .slice none 0 0, .slice none 0 0]].toList 8 = some ([.agg [.agg [.lit (.int .i64 0), .lit (.int .i64 0), .lit (.int .i64 0), .lit (.int .i64 0), .lit (.int .i64 0), .lit (.int .i64 0)], .nil, .nil]], [], places) :=
  ⟨[], by kernel_rfl⟩
set_option maxRecDepth 100000 in
theorem lifted (os : Os) (started : os.Started) (H : Type) (enc : TypeId × Value → H) (F : Stop.Interp) :
    ReturnsInHanded {} Tryz.checked os 5 .any ((OpenSpec.ofChange Rows.keyboxGoneSpec).preRow enc Tryz.prog Tryz.f5 Rows.keyboxGoneRow.domain false Rows.keyboxGoneRow.laid) (((OpenSpec.ofChange Rows.keyboxGoneSpec).at F).post enc Tryz.prog Tryz.f5 false true false false) := by
  obtain ⟨places, hx⟩ := reads os enc
  refine returnsInHanded_of_row (C := Tryz.checked) (s := OpenSpec.ofChange Rows.keyboxGoneSpec) own started (by kernel_rfl) Tryz.func5
    (witness_row_at (enc := enc) (C := Tryz.checked) false ({ World.holding Tryz.prog os ⟨#[], #[], []⟩ with heap := (World.holding Tryz.prog os ⟨#[], #[], []⟩).heap.modify 1 fun | .cells _ t frozen => .cells #[.int .i64 1, .int .i64 1, .int .i64 1, .int .i64 1, .int .i64 4, .int .i64 8, .int .i64 8] t frozen | o => o } : World) #[.agg #[.int .i64 0, .int .i64 0, .int .i64 0, .int .i64 0, .int .i64 0, .int .i64 0, .slice none 0 0, .slice none 0 0]] rfl (by kernel_rfl) (by kernel_rfl) (by kernel_rfl)
      (OpenSpec.preRow_of_cond 8 hx (by kernel_rfl) (fun k hk => by cases hk) (by kernel_rfl) (laid_met os))) ?_
  intro W base args ds gs before hval hW _ _ hsz hL _ _
  exact contract H enc W base args ds gs before hval hW hL hsz
theorem said : Rows.KeyboxGoneSaid :=
  OpenClaim.holds_of_cond 5 Tryz.f5 rfl rfl rfl rfl rfl rfl rfl ⟨rfl, rfl, rfl, rfl, rfl⟩ rfl rfl rfl rfl rfl (by kernel_rfl) Tryz.func5 (by kernel_rfl)
    (of_decide_eq_true (by kernel_rfl)) (by unfold Func.isWrapper; first | (rw [if_pos (by decide +kernel)]; kernel_rfl) | (rw [if_neg (by decide +kernel)]; exact ⟨rfl, rfl⟩))
    (fun os started H enc _ F => by rw [OpenClaim.pre_eq_preRow]; exact lifted os started H enc F)
theorem plain (f : FuncId) (fn : Func) (hf : Tryz.pinned.checked.prog.funcNamed "nepenthe/nepenthelaw20.KeyboxGone" = some f) (hfn : Tryz.pinned.checked.prog.funcs[f]? = some fn) :
    false = Tryz.pinned.checked.prog.looks [] ∧ ∀ (j : Nat) t, fn.params[j]? = some t → Tryz.pinned.checked.prog.wantsStandIn t = false := by
  obtain rfl : f = 5 := Option.some.inj ((show Tryz.prog.funcNamed "nepenthe/nepenthelaw20.KeyboxGone" = some 5 by kernel_rfl).symm.trans hf) |>.symm
  obtain rfl : fn = Tryz.f5 := (Option.some.inj (Tryz.func5.symm.trans hfn)).symm
  refine ⟨by kernel_rfl, fun j t ht => ?_⟩
  rw [Tryz.params5] at ht
  have hm := Array.mem_of_getElem? ht
  simp at hm
  subst hm
  exact (show Tryz.prog.wantsStandIn 27 = false by kernel_rfl)
end Go.Proofs.YtakibiigcdgohaaGreatDoor.keyboxGone
namespace Go.Proofs.YtakibiigcdgohaaGreatDoor
theorem keyboxGone_card : Rows.KeyboxGoneCardSaid :=
  Claim7.holds_tied_plain_at .later [] _ _ _ _ keyboxGone.said (fun _ h => by cases h) (by kernel_rfl) (fun _ h => by cases h) keyboxGone_row_tie rfl ⟨rfl, rfl⟩ (by kernel_rfl) rfl keyboxGone.plain (by kernel_rfl)
end Go.Proofs.YtakibiigcdgohaaGreatDoor
