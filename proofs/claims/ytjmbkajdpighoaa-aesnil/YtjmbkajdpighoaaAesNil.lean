/- P7.2: a nil key, and one that New did not make, answer ErrShape to Encrypt and Decrypt of any bytes; the program answers at all. -/
import Derived.Test.YtjmbkajdpighoaaACalls
namespace Go.Proofs.Ytjmbkajdpighoaa.aesNil
open Go.ChangeShapes Go.WideShapes Go.ChangeAt Go.RowKit

/-- a value gets a place: its first cell -/
theorem box_first {ops : Array Oper} {rest : List Oper} {o : Oper} {a : Act} {Q : Exit → Act → World → Prop} (w : World) (hg : o.guard = none) (x : Operand) (t : TypeId) (hop : o.op = Op.box t x) (u : Value) (us : List Value) (hx : a.eval x = .agg (u :: us).toArray)
    (hK : ∀ w', w'.cell? ⟨w.heap.size, 0, none⟩ = some u → Below w.heap.size w w' → wpList Try.prog ops Q rest (a.put o.dst (.pointer (some ⟨w.heap.size, 0, none⟩))) w') :
    wpList Try.prog ops Q (o :: rest) a w := by
  refine wpList_plain hg fun K hK' => ?_
  have c : (w.alloc (.cells (u :: us).toArray t)).cell? ⟨w.heap.size, 0, none⟩ = some u := by
    rw [cell_of_row (w.alloc (.cells (u :: us).toArray t)) w.heap.size 0 _ t (0, 0) (heap_alloc_last w _), List.getElem?_toArray, List.getElem?_cons_zero]
  have := hK _ c ((Below.refl _ _).alloc (Nat.le_refl _) _)
  unfold Oper.wp
  simp [execOp, hop, hx, Instr.box, newVar, newRow, Value.cells, Result.andThen]
  exact hK' _ _ (by simpa using this)
/-- what a key that is not made has -/
def kraw : List Value := (List.replicate 240 (0 : Int)).map (Value.int .u8)

set_option maxHeartbeats 2000000 in
theorem walk (v : Value) (xs : List Int) (w : World) (_hv : Byt w v xs) :
    Calls Try.prog 8 #[v] w fun e w' => e = .returned (.bool true) ∧ Below w.heap.size w w' := by
  have E1 : Hid (∀ w0, Calls Try.prog 19 #[.pointer none, v] w0 fun e w' => e = .returned (.tuple #[.slice none 0 0, .int .i64 2]) ∧ w' = w0) := fun w0 => encrypt_no _ _ w0 (takes_nil v w0)
  have D1 : Hid (∀ w0, Calls Try.prog 21 #[.pointer none, v] w0 fun e w' => e = .returned (.tuple #[.slice none 0 0, .int .i64 2]) ∧ w' = w0) := fun w0 => decrypt_no _ _ w0 (takes_nil v w0)
  have E2 : Hid (∀ kb w0, w0.cell? ⟨kb, 0, none⟩ = some (.bool false) → Calls Try.prog 19 #[.pointer (some ⟨kb, 0, none⟩), v] w0 fun e w' => e = .returned (.tuple #[.slice none 0 0, .int .i64 2]) ∧ w' = w0) := fun kb w0 c => encrypt_no _ _ w0 (takes_raw v kb w0 c)
  have D2 : Hid (∀ kb w0, w0.cell? ⟨kb, 0, none⟩ = some (.bool false) → Calls Try.prog 21 #[.pointer (some ⟨kb, 0, none⟩), v] w0 fun e w' => e = .returned (.tuple #[.slice none 0 0, .int .i64 2]) ∧ w' = w0) := fun kb w0 c => decrypt_no _ _ w0 (takes_raw v kb w0 c)
  clear _hv
  go_enter Try.func8, Try.ntmps8
  go_wp2_with (first
    | (go_at_call 11; refine (awake_any _).mono ?_; rintro e w3 ⟨rfl, B3⟩)
    | (go_at_call 21; refine (D2.out _ _ C2.out).mono ?_; rintro e w9 ⟨rfl, hw⟩; obtain rfl := hw.symm)
    | (go_at_call 19; refine (E2.out _ _ C2.out).mono ?_; rintro e w9 ⟨rfl, hw⟩; obtain rfl := hw.symm)
    | (refine build_law _ rfl 51 _ rfl (.agg (.bool false :: kraw).toArray) (by kernel_rfl) ?_)
    | (refine box_first _ rfl (.tmp 25) 51 rfl (.bool false) kraw rfl ?_; intro w2 c2 B2; have C2 : Hid (w2.cell? ⟨w.heap.size, 0, none⟩ = some (.bool false)) := c2; clear c2)
    | (go_at_call 21; refine (D1.out _).mono ?_; rintro e w9 ⟨rfl, hw⟩; obtain rfl := hw.symm)
    | (go_at_call 19; refine (E1.out _).mono ?_; rintro e w9 ⟨rfl, hw⟩; obtain rfl := hw.symm))
  go_ret
  exact ⟨rfl, B2.trans (B3.mono B2.size)⟩

theorem params : ∀ t ∈ Try.f8.params.toList, Try.prog.readableRec t = true ∧ t < Try.prog.types.size := by
  rw [Try.params8]
  intro t ht
  simp at ht
  subst ht
  exact ⟨by kernel_rfl, of_decide_eq_true (by kernel_rfl)⟩

theorem contract (H : Type) (enc : TypeId × Value → H) (W : World) (base : Nat) (args : Array Value) (ds gs : List (DataW H)) (before : List MemPlace)
    (hval : ∀ (j : Nat) t v, Try.f8.params[j]? = some t → args[j]? = some v → Value.okWide Try.prog W .any base t v)
    (hW : DataW.Whole enc Try.prog Try.f8.params.toList Rows.aesNilSpec.vars false W args.toList ds gs before) :
    Calls Try.prog 8 args W fun e W' => ∃ v, e = .returned v ∧ Rows.aesNilSpec.post enc Try.prog Try.f8 false true false false W args v W' := by
  have hW' := hW
  obtain ⟨p, q, hA0, hV, rfl, hfz, hnd⟩ := hW
  have hA : DataW.TrodAll enc Try.prog W 0 (fun _ => true) true Try.f8.params.toList args.toList ds p := hA0
  rw [Try.params8] at hA hval
  obtain ⟨v0, d0, rfl, rfl, h0⟩ := trodAll_one hA
  obtain ⟨rfl, rfl⟩ := trodVars_none hV
  obtain ⟨xs0, b0⟩ := byt_open (hval 0 22 v0 rfl rfl) h0
  clear hA0
  refine (walk v0 xs0 W b0).mono fun e W' ⟨he, hg⟩ => ?_
  subst he
  exact ⟨_, rfl, post_law rfl (by kernel_rfl) params rfl rfl rfl hW' hg⟩

theorem laid_met (os : Os) : laidMet Try.prog Rows.aesNilRow.laid ((World.holding Try.prog os ⟨#[], #[], []⟩).forCall (fun _ _ => 0) ⟨#[], #[.slice none 0 0], []⟩).memory :=
  laidMet_of_run' 8 (by kernel_rfl) (by kernel_rfl)
theorem reads (os : Os) {H : Type} (enc : TypeId × Value → H) : ∃ places, DataW.whole enc Try.prog ((World.holding Try.prog os ⟨#[], #[], []⟩).forCall (fun _ _ => 0) ⟨#[], #[.slice none 0 0], []⟩).memory Try.f8.params.toList Rows.aesNilSpec.vars false #[Value.slice none 0 0].toList 8 = some ([.nil], [], places) :=
  ⟨[], by kernel_rfl⟩

set_option maxRecDepth 100000 in
theorem lifted (os : Os) (started : os.Started) (H : Type) (enc : TypeId × Value → H) (F : Stop.Interp) :
    ReturnsInHanded {} Try.checked os 8 .any ((OpenSpec.ofChange Rows.aesNilSpec).preRow enc Try.prog Try.f8 Rows.aesNilRow.domain false Rows.aesNilRow.laid) (((OpenSpec.ofChange Rows.aesNilSpec).at F).post enc Try.prog Try.f8 false true false false) := by
  obtain ⟨places, hx⟩ := reads os enc
  refine returnsInHanded_of_row (C := Try.checked) (s := OpenSpec.ofChange Rows.aesNilSpec) own started (by kernel_rfl) Try.func8
    (witness_row_at (enc := enc) (C := Try.checked) false (World.holding Try.prog os ⟨#[], #[], []⟩) #[.slice none 0 0] rfl (by kernel_rfl) (by kernel_rfl) (by kernel_rfl)
      (OpenSpec.preRow_of_cond 8 hx (by kernel_rfl) (fun k hk => by cases hk) (by kernel_rfl) (laid_met os))) ?_
  intro W base args ds gs before hval hW _ _ _ _ _ _
  exact contract H enc W base args ds gs before hval hW

theorem said : Rows.AesNilSaid :=
  OpenClaim.holds_of_cond 8 Try.f8 rfl rfl rfl rfl rfl rfl rfl ⟨rfl, rfl, rfl, rfl, rfl⟩ rfl rfl rfl rfl rfl (by kernel_rfl) Try.func8 (by kernel_rfl)
    (of_decide_eq_true (by kernel_rfl)) (by unfold Func.isWrapper; first | (rw [if_pos (by decide +kernel)]; kernel_rfl) | (rw [if_neg (by decide +kernel)]; exact ⟨rfl, rfl⟩))
    (fun os started H enc _ F => by rw [OpenClaim.pre_eq_preRow]; exact lifted os started H enc F)
end Go.Proofs.Ytjmbkajdpighoaa.aesNil

namespace Go.Proofs.Ytjmbkajdpighoaa
theorem aesNil_said : Rows.AesNilSaid := aesNil.said
#print axioms aesNil_said
end Go.Proofs.Ytjmbkajdpighoaa
