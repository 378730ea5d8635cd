/- What octet's digitValue and Unhex answer. No claim of its own. -/
import Derived.Test.YtocihlnmajkceaaDoorHex
import Derived.Deep.MidRow
import Derived.PlainAid
namespace Go.Proofs.YtocihlnmajkceaaDoor
open Go.RowKit

/-- the table as the cells hold it -/
def digL : List Value := (List.range 16).map fun i : Nat => Value.int .u8 (hd (i : Int))
def digA : Array Value := digL.toArray
theorem info_arr16 : (Tryd.prog.info? 43).map (·.size) = some 16 := by kernel_rfl

section
variable {ops : Array Oper} {rest : List Oper} {o : Oper} {a : Act} {Q : Exit → Act → World → Prop}
theorem load_digits (w : World) (hg : o.guard = none) (x : Operand) (hop : o.op = Op.load 43 x) (hx : a.eval x = .pointer (some ⟨0, 0, none⟩)) (ht : Tab w)
    (hK : wpList Tryd.prog ops Q rest (a.put o.dst (.agg digA)) w) : wpList Tryd.prog ops Q (o :: rest) a w := by
  refine wpList_load_mid hg 43 x hop 0 0 hx digL _ (fun j v hj => ?_) Tryd.underlying43 rfl (by rw [info_arr16]; simp [digL]) hK
  have hj16 : j < 16 := by
    have := (List.getElem?_eq_some_iff.1 hj).1
    simpa [digL] using this
  rw [Nat.zero_add, ht j hj16]
  simp [digL, hj16] at hj
  rw [← hj]

theorem index_digits (w : World) (hg : o.guard = none) (x y : Operand) (hop : o.op = Op.index 43 x y) (k : Nat) (hk : k < 16) (hx : a.eval x = .agg digA) (hy : a.eval y = .int .i64 k)
    (hK : wpList Tryd.prog ops Q rest (a.put o.dst (.int .u8 (hd k))) w) : wpList Tryd.prog ops Q (o :: rest) a w := by
  refine wpList_plain hg fun K hK' => ?_
  have hrun : (Instr.index 43 (.agg digA) (.int .i64 (k : Int))).run Tryd.prog w = .ok (.int .u8 (hd k)) w := by
    obtain ⟨i0, hi, hz0, hz1, hz2⟩ := info_parts info_u8
    have hn : (0 ≤ (k : Int) ∧ (k : Int) < 16) := by omega
    have hget : digA[k]? = some (.int .u8 (hd (k : Int))) := by simp only [digA, digL, List.getElem?_toArray, List.getElem?_map, List.getElem?_range hk, Option.map_some]
    simp [Instr.index, run_underlying Tryd.underlying43, asIntOf, hn, go_sem, sizeOf, typeInfo, hi, hz1, hget]
    intro h; omega
  unfold Oper.wp
  simp [execOp, hop, hx, hy, hrun, Result.andThen]
  exact hK' _ _ hK
end

/-- what a digit stands for; -1, if it is none -/
def dv (x : Int) : Int := if 48 ≤ x ∧ x ≤ 57 then x - 48 else if 97 ≤ x ∧ x ≤ 102 then x - 87 else -1
theorem hd_all : ∀ k : Fin 16, hd (k.val : Int) = if k.val < 10 then 48 + (k.val : Int) else 87 + (k.val : Int) := by decide
theorem hd_is (k : Nat) (h : k < 16) : hd (k : Int) = if k < 10 then 48 + (k : Int) else 87 + (k : Int) := hd_all ⟨k, h⟩
theorem dv_hd (k : Nat) (h : k < 16) : dv (hd k) = k := by
  rw [hd_is k h]
  unfold dv
  (repeat' split) <;> omega
theorem hd_dv (x : Int) (h : 0 ≤ dv x) : hd (dv x) = x ∧ dv x ≤ 15 := by
  have hx : ∃ k : Nat, k < 16 ∧ dv x = k ∧ (if k < 10 then 48 + (k : Int) else 87 + (k : Int)) = x := by
    unfold dv at h ⊢
    split at h
    · rename_i h1
      refine ⟨(x - 48).toNat, by omega, by rw [if_pos h1]; omega, ?_⟩
      rw [if_pos (by omega)]; omega
    · split at h
      · rename_i h1 h2
        refine ⟨(x - 87).toNat, by omega, by rw [if_neg h1, if_pos h2]; omega, ?_⟩
        rw [if_neg (by omega)]; omega
      · omega
  obtain ⟨k, hk, hd1, hd2⟩ := hx
  rw [hd1, hd_is k hk]
  exact ⟨hd2, by omega⟩
theorem dv_none (x : Int) (h : ∀ t : Nat, t < 16 → hd t ≠ x) : dv x = -1 := by
  by_cases h0 : 0 ≤ dv x
  · obtain ⟨e, l⟩ := hd_dv x h0
    have := h (dv x).toNat (by omega)
    rw [Int.toNat_of_nonneg h0] at this
    exact absurd e this
  · unfold dv at h0 ⊢
    (repeat' split) <;> simp_all <;> omega
theorem hd_bd (k : Int) (h : 0 ≤ k ∧ k ≤ 15) : 0 ≤ hd k ∧ hd k ≤ 255 := by
  obtain ⟨n, rfl⟩ : ∃ n : Nat, k = n := ⟨k.toNat, by omega⟩
  rw [hd_is n (by omega)]
  split <;> omega

set_option maxHeartbeats 2000000 in
theorem dv_any (x : Int) (w : World) (ht : Tab w) :
    Calls Tryd.prog 30 #[.int .u8 x] w fun e w' => ∃ y, e = .returned (.tuple #[.int .u8 y, .bool (decide (0 ≤ dv x))]) ∧ (0 ≤ dv x → y = dv x) ∧ w' = w := by
  have HT : Hid (Tab w) := ht
  clear ht
  go_enter Tryd.func30, Tryd.ntmps30
  go_wp2_with (refine load_digits _ rfl (.global 0) rfl rfl HT.out ?_)
  go_loop [7] (fun i => ∃ k : Nat, k ≤ 16 ∧ i = .int .i64 k ∧ Hid (∀ t : Nat, t < k → hd t ≠ x)) (fun i => 16 - (intOf i).toNat)
  case atStart => exact ⟨0, Nat.zero_le _, rfl, fun t ht => by omega⟩
  case round =>
    obtain ⟨k, hk, rfl, hno⟩ := hrel
    by_cases hlt : k < 16
    · have e8 : IntKind.u8.wrap (k : Int) = k := by rw [IntKind.wrap_u8']; omega
      go_wp2_with (refine index_digits _ rfl (.tmp 6) (.tmp 7) rfl k hlt rfl rfl ?_)
      · have hx' : (hd (k : Int) == x) = true := by assumption
        have hx : hd (k : Int) = x := by simpa using hx'
        go_ret2
        refine ⟨(k : Int), ?_, fun _ => by rw [← hx, dv_hd k hlt], rfl⟩
        have : decide (0 ≤ dv x) = true := by rw [← hx, dv_hd k hlt]; simp
        rw [this]; rfl
      · go_round
        case rel => exact ⟨k + 1, by omega, by go_num, fun t ht => if h : t < k then hno.out t h else by
          have : t = k := by omega
          have hx' : (hd (k : Int) == x) = false := by assumption
          subst this; simpa using hx'⟩
        case measure => simp [intOf]; omega
    · have hd0 : dv x = -1 := dv_none x fun t ht => hno.out t (by omega)
      have HD : Hid (dv x = -1) := hd0
      clear hd0
      go_wp2
      go_ret2
      refine ⟨0, ?_, fun h => by rw [HD.out] at h; omega, rfl⟩
      rw [HD.out]; rfl
end Go.Proofs.YtocihlnmajkceaaDoor
