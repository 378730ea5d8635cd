/- What octet's Hex answers: two digits for each byte. No claim of its own. -/
import Derived.Test.YtocihlnmajkceaaDoorBase
import Derived.Deep.RegionHeld3
import Derived.Deep.AppendLies
namespace Go.Proofs.YtocihlnmajkceaaDoor
open Go.RowKit

/-- the digit of n -/
def hd (n : Int) : Int := gb [48, 49, 50, 51, 52, 53, 54, 55, 56, 57, 97, 98, 99, 100, 101, 102] n.toNat
/-- the table of digits lies in w -/
def Tab (w : World) : Prop := ∀ i : Nat, i < 16 → w.cell? ⟨0, i, none⟩ = some (.int .u8 (hd i))
theorem Tab.below {w w' : World} (h : Tab w) (hb : Below w.heap.size w w') : Tab w' := fun i hi => by
  have := h i hi
  rw [hb.cell (World.block_lt_of_cell? w _ this)]; exact this
theorem Tab.below' {w w' : World} {B : Nat} (h : Tab w) (hB : 0 < B) (hb : Below B w w') : Tab w' := fun i hi => by
  have := h i hi
  rw [hb.cell hB]; exact this
theorem Tab.lt {w : World} (h : Tab w) : 0 < w.heap.size := World.block_lt_of_cell? w _ (h 0 (by omega))

def hexs (xs : List Int) : List Int := xs.flatMap fun x => [hd (x / 16), hd (x % 16)]
theorem hexs_len (xs : List Int) : (hexs xs).length = 2 * xs.length := by
  induction xs with
  | nil => rfl
  | cons x xs ih => simp only [hexs, List.flatMap_cons, List.length_append, List.length_cons, List.length_nil] at *; omega
theorem take_gb (xs : List Int) (k : Nat) (h : k < xs.length) : xs.take (k + 1) = xs.take k ++ [gb xs k] := by
  rw [List.take_succ_eq_append_getElem h]; simp [gb, List.getD, h]
theorem hexs_snoc (xs : List Int) (k : Nat) (h : k < xs.length) : hexs (xs.take (k + 1)) = hexs (xs.take k) ++ [hd (gb xs k / 16), hd (gb xs k % 16)] := by
  rw [take_gb xs k h]; simp [hexs]

/-- the row g owns n bytes, with room for cap -/
def OwnC (B : Nat) (w : World) (g n cap : Nat) (xs : List Int) : Prop := xs.length = n ∧ B ≤ g ∧ w.ownsRow B 5 1 (.slice (some ⟨g, 0, none⟩) n cap) n (xs.map (Value.int .u8))
theorem OwnC.byt {B : Nat} {w : World} {g n cap : Nat} {xs : List Int} (h : OwnC B w g n cap xs) (ha : AllB xs) : Byt w (.slice (some ⟨g, 0, none⟩) n cap) xs := Byt.own h.2.2 ha
theorem OwnC.cell {B : Nat} {w : World} {g n cap : Nat} {xs : List Int} (h : OwnC B w g n cap xs) {k : Nat} (hk : k < n) : w.cell? ⟨g, k, none⟩ = some (.int .u8 (gb xs k)) := by
  rw [h.2.2.cellAt k (by omega)]
  have := h.1
  simp [gb, List.getD, show k < xs.length by omega]

section
variable {ops : Array Oper} {rest : List Oper} {o : Oper} {a : Act} {Q : Exit → Act → World → Prop}
/-- 'make([]byte, 0, n)' -/
theorem make0_law (w : World) (hg : o.guard = none) (l c : Operand) (hop : o.op = Op.makeSlice 23 l c) (B : Nat) (hB : B ≤ w.heap.size)
    (L : Int) (n : Nat) (hl : a.eval l = .int .i64 0) (hc : a.eval c = .int .i64 L) (hL : L = (n : Int)) (hn : n ≤ 1099511627776)
    (hK : ∀ w', OwnC B w' w.heap.size 0 n [] → Below B w w' → w.heap.size < w'.heap.size → wpList Tryd.prog ops Q rest (a.put o.dst (.slice (some ⟨w.heap.size, 0, none⟩) 0 n)) w') :
    wpList Tryd.prog ops Q (o :: rest) a w := by
  obtain ⟨i0, hi, hz0, hz1, hz2⟩ := info_parts info_u8
  refine wpList_make_own w hg l c 23 hop B 5 i0 (.int .u8 0) 1 Tryd.underlying23 hi hz0 hz1 .i64 .i64 L n hl hc hL (by rw [hz2]; omega) (by simp only [maxLen]; omega) hB fun w' h1 h2 => ?_
  exact hK w' ⟨rfl, hB, h1⟩ ((Below.refl B w).grown h2 hB (fun k hk => by cases hk)) (h1.lt w.heap.size rfl).2

/-- 'out = append(out, c, d)' within the capacity, in a region that draws its order -/
theorem step_push2 {K : Act → World → Prop} {E : Prop} (w0 : World) (hg : o.guard = none) (s x : Operand) (hop : o.op = .call { callee := .builtin .append, args := #[s, x], argTypes := #[23, 23] })
    (B : Nat) (hB : B ≤ w0.heap.size) (g n cap : Nat) (xs : List Int) (c d : Int) (hs : a.eval s = .slice (some ⟨g, 0, none⟩) n cap) (hx : a.eval x = .slice (some ⟨w0.heap.size, 0, none⟩) 2 2) (hown : OwnC B w0 g n cap xs) (hfit : n + 2 ≤ cap)
    (hK : ∀ w', OwnC B w' g (n + 2) cap (xs ++ [c, d]) → Below B w0 w' → K (a.put o.dst (.slice (some ⟨g, 0, none⟩) (n + 2) cap)) w') :
    if Region.wanted o (yielded ops a.tmps) = true then Oper.wp Tryd.prog o a (w0.alloc (.cells #[.int .u8 c, .int .u8 d] 5)) K Q else E := by
  have hw : Region.wanted o (yielded ops a.tmps) = true := by simp [Region.wanted, hg]
  rw [if_pos hw]
  obtain ⟨i0, hi, hz0, hz1, hz2⟩ := info_parts info_u8
  obtain ⟨w', hrun, r1, r2⟩ := run_append_fits (P := Tryd.prog) (w0.alloc (.cells #[.int .u8 c, .int .u8 d] 5)) B 23 o.type 5 i0 1 Tryd.underlying23 hi hz1 g n cap _ (World.ownsRow.alloc hown.2.2 _)
    ⟨w0.heap.size, 0, none⟩ 2 2 [.int .u8 c, .int .u8 d] rfl (World.news_of_block (cs := #[.int .u8 c, .int .u8 d]) (t := 5) (fr := (0, 0)) (heap_alloc_new w0 _)) (by simp [Value.oneCell']) hfit
  unfold Oper.wp
  simp [execOp, hop, resolve, invoke, builtin, hs, hx, hrun, Result.andThen]
  refine hK w' ⟨by have := hown.1; simp; omega, hown.2.1, by simpa using r1⟩ ?_
  refine ((Below.refl B w0).alloc hB _).grown r2 (by simp; omega) fun k hk => ?_
  cases hk; exact hown.2.1
end

theorem and15 (x : Int) (h : 0 ≤ x ∧ x ≤ 255) : bits .and .u8 x 15 = x % 16 := by
  rw [u8_and x 15 h.1 (by omega) (by decide) (by decide)]
  show ((x.toNat &&& 15 : Nat) : Int) = _
  rw [nat_mask4]; omega

set_option maxHeartbeats 2000000 in
theorem hex_any (v : Value) (xs : List Int) (w : World) (hb : Byt w v xs) (hl : xs.length ≤ 1048576) (ht : Tab w) :
    Calls Tryd.prog 24 #[v] w fun e w' => e = .returned (.string (strOfNums (hexs xs))) ∧ Below w.heap.size w w' := by
  obtain ⟨ao, cap, rfl, h1, h2, h3, -, h5⟩ := hb
  have H5 : Hid (0 < xs.length → ∃ b off, ao = some ⟨b, off, none⟩ ∧ ∀ t, t < xs.length → w.cell? ⟨b, off + t, none⟩ = some (.int .u8 (gb xs t))) := h5
  have HT : Hid (Tab w) := ht
  have HA : Hid (AllB xs) := h3
  clear h5 ht h3
  go_enter Tryd.func24, Tryd.ntmps24
  go_wp2_with (at_make; refine make0_law _ rfl (.const (.int .i64 0)) (.tmp 8) rfl w.heap.size (Nat.le_refl _) _ (2 * xs.length) rfl rfl (by omega) (by omega) ?_; intro w1 hown hbel hlt)
  go_loopw [3, 12] (fun v i wr => ∃ k : Nat, k ≤ xs.length ∧ i = .int .i64 k ∧ v = .slice (some ⟨w.heap.size, 0, none⟩) (2 * k) (2 * xs.length) ∧ OwnC w.heap.size wr w.heap.size (2 * k) (2 * xs.length) (hexs (xs.take k)) ∧ Below w.heap.size w wr) (fun _ i _ => xs.length - (intOf i).toNat)
  case atStart => exact ⟨0, Nat.zero_le _, rfl, rfl, hown, hbel⟩
  case round =>
    clear hown hbel
    obtain ⟨k, hk, rfl, rfl, hown, hbel⟩ := hrel
    by_cases hlt' : k < xs.length
    · obtain ⟨b, off, rfl, hca⟩ := H5.out (by omega)
      have c0 := hca k hlt'
      have c1 : wr.cell? ⟨b, off + k, none⟩ = some (.int .u8 (gb xs k)) := by rw [hbel.cell (World.block_lt_of_cell? w _ c0)]; exact c0
      clear c0 hca
      obtain ⟨x0, x1⟩ := HA.out k
      have hand := and15 (gb xs k) ⟨x0, x1⟩
      have T := HT.out.below hbel
      have t1 : wr.cell? ⟨0, (gb xs k / 16).toNat, none⟩ = some (.int .u8 (hd (gb xs k / 16))) := by have := T (gb xs k / 16).toNat (by omega); rwa [Int.toNat_of_nonneg (by omega)] at this
      have t2 : wr.cell? ⟨0, (gb xs k % 16).toNat, none⟩ = some (.int .u8 (hd (gb xs k % 16))) := by have := T (gb xs k % 16).toNat (by omega); rwa [Int.toNat_of_nonneg (by omega)] at this
      have b1 : gb xs k / 16 < 16 := by omega
      have b2 : gb xs k % 16 < 16 := by omega
      have b3 : 0 ≤ gb xs k / 16 := by omega
      have b4 : 0 ≤ gb xs k % 16 := by omega
      have sn := hexs_snoc xs k hlt'
      have SN : Hid (hexs (xs.take (k + 1)) = hexs (xs.take k) ++ [hd (gb xs k / 16), hd (gb xs k % 16)]) := sn
      have HT' : Hid (Tab wr) := T
      clear sn T
      have hB : 0 < w.heap.size := HT.out.lt
      have hsz := hbel.size
      go_wp2
      go_region_held3 (fun w' => w'.cell? ⟨0, (gb xs k / 16).toNat, none⟩ = some (.int .u8 (hd (gb xs k / 16))) ∧ w'.cell? ⟨0, (gb xs k % 16).toNat, none⟩ = some (.int .u8 (hd (gb xs k % 16))))
        (first
          | go_keep
          | (exact ⟨by rw [hbel'.cell hB]; simpa using t1, by rw [hbel'.cell hB]; simpa using t2⟩))
        ((refine step_push2 wr.drew rfl (.tmp 16) (.tmp 25) rfl w.heap.size (by simpa using hsz) w.heap.size (2 * k) (2 * xs.length) (hexs (xs.take k)) (hd (gb xs k / 16)) (hd (gb xs k % 16)) rfl rfl hown (by omega) ?_; intro w2 hown' hbel'))
      go_wp2
      go_roundw
      case rel => exact ⟨k + 1, by omega, by go_num, rfl, by rw [SN.out]; exact hown', hbel.drew.trans hbel'⟩
      case measure => simp [intOf]; omega
    · have hks : k = xs.length := by omega
      subst hks
      rw [List.take_length] at hown
      have hconv := run_convert_bytes_arg (P := Tryd.prog) wr 23 5 Tryd.underlying23 Tryd.underlying5 w.heap.size 0 (2 * xs.length) (2 * xs.length) (hexs xs) (hexs_len xs) (fun i hi => by rw [Nat.zero_add]; exact hown.cell hi) 9 Tryd.underlying9
      go_wp2
      go_ret
      exact ⟨rfl, hbel⟩
end Go.Proofs.YtocihlnmajkceaaDoor
