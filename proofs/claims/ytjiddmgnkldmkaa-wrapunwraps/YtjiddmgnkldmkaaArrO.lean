/- What an argument that is an array of bytes holds; two slices that hold the same. No claim of its own. -/
import Derived.Test.YtjiddmgnkldmkaaLawG
import Derived.Test.YtjiddmgnkldmkaaFMixM
import Derived.Test.YtjiddmgnkldmkaaSame
namespace Go.Proofs.Ytjiddmgnkldmkaa
open Go.ChangeShapes Go.WideShapes Go.ChangeAt Go.RowKit

theorem cells_arr32 : Try.prog.cellsOf 33 = 32 := by kernel_rfl

/-- an argument that is an array of bytes -/
theorem arr_open {H : Type} {enc : TypeId × Value → H} {W : World} {base : Nat} {v : Value} {d : DataW H} {ps : List MemPlace} {t : TypeId} {n : Nat} (hu : Try.prog.underlying t = some (.array n 5)) (hcn : Try.prog.cellsOf t = n)
    (ok : Value.okWide Try.prog W .any base t v) (h : DataW.Trod enc Try.prog W 0 (fun _ => true) true t v d ps) : ∃ l : List Nat, v = .agg (l.map fun x : Nat => Value.int .u8 (x : Int)).toArray ∧ l.length = n ∧ ∀ x ∈ l, x < 256 := by
  simp only [Value.okWide, hu] at ok
  obtain ⟨cs, rfl, h2, _⟩ := ok
  rw [hcn] at h2
  obtain ⟨l⟩ := cs
  obtain ⟨fuel, hf⟩ := h
  obtain ⟨xs, m, rfl, hx, hcl, hxl, hall⟩ := DataW.trod_array hu hf
  have h2' : l.length = n := by simpa using h2
  have key : ∀ c ∈ l, ∃ x : Nat, c = .int .u8 (x : Int) ∧ x < 256 := by
    intro c hc
    obtain ⟨i, hi, rfl⟩ := List.getElem_of_mem hc
    have a0 := hall i (by omega)
    rw [cells_u8, List.getElem?_eq_getElem (by omega)] at a0
    have e : ((Value.agg ⟨l⟩).cells.toList.drop (i * 1)).take 1 = [l[i]] := by
      show (l.drop (i * 1)).take 1 = [l[i]]
      rw [Nat.mul_one, List.drop_eq_getElem_cons hi]; rfl
    rw [e] at a0
    obtain ⟨y, hy, -, hw⟩ := DataW.trod_int Try.underlying5 a0
    have hb := bounds_u8 hw
    refine ⟨y.toNat, ?_, by omega⟩
    rw [show ((y.toNat : Nat) : Int) = y by omega]
    simpa using hy
  clear hall hx hcl hxl hf h2
  refine ⟨l.map fun c => match c with | .int _ y => y.toNat | _ => 0, ?_, by simpa using h2', ?_⟩
  · congr 1
    refine congrArg List.toArray ?_
    rw [List.map_map]
    symm
    refine (List.map_congr_left fun c hc => ?_).trans (List.map_id l)
    obtain ⟨x, rfl, _⟩ := key c hc
    simp
  · intro x hx
    obtain ⟨c, hc, rfl⟩ := List.mem_map.1 hx
    obtain ⟨x, rfl, hx'⟩ := key c hc
    simpa using hx'

/-- its numbers, as whole numbers -/
theorem arr_ints (l : List Nat) : (l.map fun x : Nat => Value.int .u8 (x : Int)).toArray = ints .u8 (cI l) := by simp [ints, cI]
theorem arr_all (l : List Nat) (h : ∀ x ∈ l, x < 256) : AllB (cI l) := allB_mem fun x hx => by
  obtain ⟨y, hy, rfl⟩ := List.mem_map.1 hx
  have := h y hy
  omega
/-- two slices that hold the same bytes -/
theorem same_yes (w : World) (va vb : Value) (xs : List Int) (ha : Byt w va xs) (hb : Byt w vb xs) :
    Calls Try.prog 10 #[va, vb] w fun e w' => e = .returned (.bool true) ∧ Below w.heap.size w w' :=
  (same_any w va vb xs xs ha hb).mono fun _ _ ⟨he, n, hw⟩ => ⟨by rw [he, decide_eq_true rfl], by rw [hw]; exact below_drewN (Below.refl _ _) n⟩
end Go.Proofs.Ytjiddmgnkldmkaa
