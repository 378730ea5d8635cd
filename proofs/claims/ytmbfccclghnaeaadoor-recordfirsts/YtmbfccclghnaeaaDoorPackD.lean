/- Texts put together (a claim holds few files). No claim of its own. -/
import Derived.Test.YtmbfccclghnaeaaDoorPackC
import Derived.Test.YtmbfccclghnaeaaDoorPackB
import Derived.Lib.SliceRun
/- A slot's bytes as a list. No claim of its own. -/
namespace Go.Proofs.YtmbfccclghnaeaaDoor.so
open Go.RowKit Go.Proofs.YtmbfccclghnaeaaDoor.fa Go.Proofs.YtmbfccclghnaeaaDoor.he
set_option maxRecDepth 20000

/-- a slot may be -/
def Rs (u : Bool) (n e t : Int) (ws : List Int) : Prop := if u then 1 ≤ n ∧ n ≤ 65535 ∧ ws.length = 104 else n = 0 ∧ e = 0 ∧ t = 0 ∧ ws.length = 0
/-- the bytes of a slot that is used -/
def sbt (n e t : Int) (ws : List Int) : List Int := [1, 0, 0, 0] ++ (be n 4 ++ (be e 8 ++ (be t 8 ++ ws)))
/-- a slot's bytes -/
def sb (u : Bool) (n e t : Int) (ws : List Int) : List Int := if u then sbt n e t ws else List.replicate 128 0
theorem sbt_len (n e t : Int) (ws : List Int) : (sbt n e t ws).length = 24 + ws.length := by simp [sbt, be_len]; omega
theorem sb_len {u : Bool} {n e t : Int} {ws : List Int} (h : Rs u n e t ws) : (sb u n e t ws).length = 128 := by
  cases u
  · simp [sb]
  · simp only [Rs, if_true] at h
    simp only [sb, if_true]
    rw [sbt_len, h.2.2]
theorem sbt_all {n e t : Int} {ws : List Int} (h : AllB ws) : AllB (sbt n e t ws) := by
  refine allB_app (allB_mem fun x hx => ?_) (allB_app (be_all n 4) (allB_app (be_all e 8) (allB_app (be_all t 8) h)))
  simp at hx
  rcases hx with rfl | rfl <;> omega
theorem sb_all {u : Bool} {n e t : Int} {ws : List Int} (h : AllB ws) : AllB (sb u n e t ws) := by
  cases u
  · exact allB_replicate 0 128 (by omega)
  · exact sbt_all h
/-- the numbers that the bytes of a slot tell -/
def gn (xs : List Int) : Int := num (last8 (sub xs 4 8))
def ge' (xs : List Int) : Int := num (last8 (sub xs 8 16))
def gt' (xs : List Int) : Int := num (last8 (sub xs 16 24))
def gw (xs : List Int) : List Int := sub xs 24 128
theorem g_sbt {n e t : Int} {ws : List Int} (hn : 0 ≤ n ∧ n ≤ 4294967295) (he : 0 ≤ e ∧ e ≤ 18446744073709551615) (ht : 0 ≤ t ∧ t ≤ 18446744073709551615) (hl : ws.length = 104) :
    gn (sbt n e t ws) = n ∧ ge' (sbt n e t ws) = e ∧ gt' (sbt n e t ws) = t ∧ gw (sbt n e t ws) = ws := by
  have s1 : sub (sbt n e t ws) 4 8 = be n 4 := sub_at [1, 0, 0, 0] (be n 4) _ 4 8 rfl (by rw [be_len])
  have s2 : sub (sbt n e t ws) 8 16 = be e 8 := by
    have := sub_at ([1, 0, 0, 0] ++ be n 4) (be e 8) (be t 8 ++ ws) 8 16 (by simp [be_len]) (by rw [be_len])
    rwa [List.append_assoc] at this
  have s3 : sub (sbt n e t ws) 16 24 = be t 8 := by
    have := sub_at ([1, 0, 0, 0] ++ be n 4 ++ be e 8) (be t 8) ws 16 24 (by simp [be_len]) (by rw [be_len])
    rwa [List.append_assoc, List.append_assoc] at this
  have s4 : sub (sbt n e t ws) 24 128 = ws := by
    have := sub_at ([1, 0, 0, 0] ++ be n 4 ++ be e 8 ++ be t 8) ws [] 24 128 (by simp [be_len]) (by omega)
    rwa [List.append_nil, List.append_assoc, List.append_assoc, List.append_assoc] at this
  refine ⟨?_, ?_, ?_, s4⟩
  · unfold gn; rw [s1, num_be4 n hn]
  · unfold ge'; rw [s2, num_be8 e he]
  · unfold gt'; rw [s3, num_be8 t ht]
/-- bytes of which the first four are a one and three noughts are those of what they tell -/
theorem sbt_g {xs : List Int} (hl : xs.length = 128) (ha : AllB xs) (h0 : gb xs 0 = 1) (h1 : gb xs 1 = 0) (h2 : gb xs 2 = 0) (h3 : gb xs 3 = 0) : sbt (gn xs) (ge' xs) (gt' xs) (gw xs) = xs := by
  have a1 := (be_num4 (xs := sub xs 4 8) (by rw [sub_len _ _ _ (by omega)]) (allB_sub ha 4 8)).1
  have a2 := (be_num8 (xs := sub xs 8 16) (by rw [sub_len _ _ _ (by omega)]) (allB_sub ha 8 16)).1
  have a3 := (be_num8 (xs := sub xs 16 24) (by rw [sub_len _ _ _ (by omega)]) (allB_sub ha 16 24)).1
  unfold sbt gn ge' gt' gw
  rw [a1, a2, a3]
  have l0 : ([1, 0, 0, 0] : List Int) = sub xs 0 4 := by
    refine ext_gb (by rw [sub_len _ _ _ (by omega)]; rfl) fun t ht => ?_
    have ht : t < 4 := ht
    rw [sub_gb _ _ _ _ (by omega), Nat.zero_add]
    match t, ht with
    | 0, _ => rw [h0]; rfl
    | 1, _ => rw [h1]; rfl
    | 2, _ => rw [h2]; rfl
    | 3, _ => rw [h3]; rfl
  have j : ∀ a b c : Nat, a ≤ b → b ≤ c → c ≤ 128 → sub xs a b ++ sub xs b c = sub xs a c := fun a b c q1 q2 q3 => by
    have e : xs.take c = xs.take b ++ (xs.take c).drop b := by
      have := (List.take_append_drop b (xs.take c)).symm
      rwa [List.take_take, Nat.min_eq_left q2] at this
    unfold sub
    rw [← List.drop_append_of_le_length (l₁ := xs.take b) (by simp; omega), ← e]
  rw [l0, j 16 24 128 (by omega) (by omega) (by omega), j 8 16 128 (by omega) (by omega) (by omega), j 4 8 128 (by omega) (by omega) (by omega), j 0 4 128 (by omega) (by omega) (by omega)]
  unfold sub
  rw [List.drop_zero, List.take_of_length_le (by omega)]
/-- is a head dead beneath a slot? -/
def Dd (u : Bool) (e t e' t' : Int) : Prop := u = false ∨ e' < e ∨ e' = e ∧ t' ≤ t
theorem dd_ahead {u : Bool} {e t a b c d : Int} (h : Dd u e t a b) (ha : c < a ∨ c = a ∧ d ≤ b) : Dd u e t c d := by
  unfold Dd at *
  rcases h with h | h | h
  · exact Or.inl h
  · right; omega
  · right; omega
end Go.Proofs.YtmbfccclghnaeaaDoor.so

/- A slot as a value; what an argument that is a slot holds. No claim of its own. -/
namespace Go.Proofs.YtmbfccclghnaeaaDoor.so
open Go.ChangeShapes Go.WideShapes Go.ChangeAt Go.RowKit Go.Proofs.YtmbfccclghnaeaaDoor.fa Go.Proofs.YtmbfccclghnaeaaDoor.he
set_option maxRecDepth 20000

/-- a slot's cells -/
def sv (u : Bool) (n e t : Int) (v : Value) : List Value := [.bool u, .int .i64 n, .int .u64 e, .int .u64 t, v]
theorem rowy_slot : Rowy 25 5 := ⟨⟨_, Tryd.underlying25, rfl⟩, by kernel_rfl⟩
theorem rowy_rslot : Rowy 36 5 := ⟨⟨_, Tryd.underlying36, rfl⟩, by kernel_rfl⟩
theorem rowy_nums : Rowy 84 5 := ⟨⟨_, Tryd.underlying84, rfl⟩, by kernel_rfl⟩
theorem zero_slot : (Tryd.prog.info? 25).map (fun i => (i.zero, i.size)) = some (some (.agg (sv false 0 0 0 (.slice none 0 0)).toArray), 5) := by kernel_rfl
theorem zero_rslot : (Tryd.prog.info? 36).map (fun i => (i.zero, i.size)) = some (some (.agg (sv false 0 0 0 (.slice none 0 0)).toArray), 5) := by kernel_rfl
theorem zero_nums : (Tryd.prog.info? 84).map (fun i => (i.zero, i.size)) = some (some (.agg (nv [0, 0, 0, 0, 0]).toArray), 5) := by kernel_rfl
theorem one_sl (ao : Option Addr) (n cap : Nat) : (Value.slice ao n cap).oneCell' = true := rfl
theorem byt_one {w : World} {v : Value} {xs : List Int} (h : Byt w v xs) : v.oneCell' = true := by
  obtain ⟨ao, cap, rfl, _⟩ := h
  rfl
theorem sv_one (u : Bool) (n e t : Int) {v : Value} (h : v.oneCell' = true) : ∀ x ∈ sv u n e t v, x.oneCell' = true := fun x hx => by
  simp [sv] at hx
  rcases hx with rfl | rfl | rfl | rfl | rfl
  · rfl
  · rfl
  · rfl
  · rfl
  · exact h
section
variable {ops : Array Oper} {rest : List Oper} {a : Act} {Q : Exit → Act → World → Prop} {w : World} {d : Option Tmp} {ty : TypeId} {pos : String} {af : Array Edge} {gd : Option (Nat × Bool)}
/-- is it a store? -/
theorem at_store {t : TypeId} {x y : Operand} (h : wpList Tryd.prog ops Q (⟨d, Op.store t x y, ty, pos, af, gd⟩ :: rest) a w) : wpList Tryd.prog ops Q (⟨d, Op.store t x y, ty, pos, af, gd⟩ :: rest) a w := h
theorem at_alloc {t : TypeId} (h : wpList Tryd.prog ops Q (⟨d, Op.alloc t, ty, pos, af, gd⟩ :: rest) a w) : wpList Tryd.prog ops Q (⟨d, Op.alloc t, ty, pos, af, gd⟩ :: rest) a w := h
end
/-- a block that holds no byte -/
def NoB (w : World) (g : Nat) : Prop := ∀ j y, w.cell? ⟨g, j, none⟩ ≠ some (.int .u8 y)
theorem NoB.heap {w w' : World} {g : Nat} (h : NoB w g) (e : w'.heap[g]? = w.heap[g]?) : NoB w' g := fun j y => by
  rw [World.cell?_of_block (w := w) (w' := w') (a := ⟨g, j, none⟩) e]
  exact h j y
theorem vr_there1 {w : World} {c : Nat} {cs : List Value} (h : Vr w c cs) (j : Nat) (hj : j < cs.length) : (w.cell? ⟨c, j, none⟩).isSome = true := by
  rw [h.cell j _ (List.getElem?_eq_getElem hj)]; rfl
theorem NoB.set {w : World} {g : Nat} {cs0 cs : List Value} (h : NoB w g) (hV : Vr w g cs0) (hl : cs0.length = cs.length) (hc : ∀ v ∈ cs, ∀ y, v ≠ .int .u8 y) : NoB (w.setCells g 0 cs) g := fun j y e => by
  by_cases hj : j < cs.length
  · have := World.cell?_setCells_in g cs 0 w (fun i hi => by rw [Nat.zero_add]; exact vr_there1 hV i (by omega)) j hj
    rw [Nat.zero_add] at this
    rw [this] at e
    exact hc _ (List.getElem_mem hj) y (Option.some.inj e)
  · rw [World.cell?_setCells_out g cs 0 w ⟨g, j, none⟩ (fun _ _ => Or.inr (by simp; omega))] at e
    exact h j y e
/-- bytes last where a block without bytes is written -/
theorem byt_nob {w w' : World} {c : Nat} {v : Value} {xs : List Int} (h : Byt w v xs) (hn : NoB w c) (hk : ∀ k, k ≠ c → w'.heap[k]? = w.heap[k]?) : Byt w' v xs := by
  obtain ⟨ao, cap, rfl, h1, h2, h3, h4, h5⟩ := h
  refine ⟨ao, cap, rfl, h1, h2, h3, h4, fun hp => ?_⟩
  obtain ⟨b, off, rfl, hc⟩ := h5 hp
  refine ⟨b, off, rfl, fun t ht => ?_⟩
  have hb : b ≠ c := fun e => by subst e; exact hn _ _ (hc t ht)
  rw [World.cell?_of_block (w := w) (w' := w') (a := ⟨b, off + t, none⟩) (hk b hb)]
  exact hc t ht
/-- a struct's variable; its block holds no byte -/
theorem new_lawN {ops : Array Oper} {rest : List Oper} {a : Act} {Q : Exit → Act → World → Prop} {d : Option Tmp} {t ty : TypeId} {pos : String} {af : Array Edge} (w : World) (cs : List Value) (hz : (Tryd.prog.info? t).map (fun i => (i.zero, i.size)) = some (some (.agg cs.toArray), cs.length)) (hc : ∀ v ∈ cs, ∀ y, v ≠ .int .u8 y)
    (hK : ∀ w', Vr w' w.heap.size cs → NoB w' w.heap.size → Below w.heap.size w w' → wpList Tryd.prog ops Q rest (a.put d (.pointer (some ⟨w.heap.size, 0, none⟩))) w') :
    wpList Tryd.prog ops Q (⟨d, Op.alloc t, ty, pos, af, none⟩ :: rest) a w := by
  refine wpList_plain rfl fun K hK' => ?_
  have hz' := (zero_of_info hz).1
  unfold Oper.wp
  simp [execOp, Instr.alloc, hz', newVar, newRow, Value.cells, Result.andThen]
  refine hK' _ _ (hK _ (Vr.new w t cs) (fun j y e => ?_) ((Below.refl _ _).alloc (Nat.le_refl _) _))
  rw [cell_of_row (w.alloc (.cells cs.toArray t)) w.heap.size j _ t (0, 0) (heap_alloc_last w _)] at e
  have e : cs[j]? = some (.int .u8 y) := by simpa using e
  exact hc _ (List.mem_of_getElem? e) y rfl
theorem heap_one (w : World) (b o : Nat) (v : Value) (k : Nat) (h : k ≠ b) : (w.setCell ⟨b, o, none⟩ v).heap[k]? = w.heap[k]? := Below.heap_setCell w ⟨b, o, none⟩ v k h
theorem NoB.one {w : World} {g j : Nat} {v old : Value} (h : NoB w g) (ho : w.cell? ⟨g, j, none⟩ = some old) (hv : ∀ y, v ≠ .int .u8 y) : NoB (w.setCell ⟨g, j, none⟩ v) g := fun i y e => by
  by_cases q : i = j
  · subst q
    rw [World.cell?_setCell_same _ _ _ ho] at e
    exact hv y (Option.some.inj e)
  · rw [World.cell?_setCell_other _ _ _ _ (by intro z; injection z with _ z2; omega)] at e
    exact h i y e
/-- one cell of a variable is written -/
theorem set_lawC {ops : Array Oper} {rest : List Oper} {a : Act} {Q : Exit → Act → World → Prop} {d : Option Tmp} {x y : Operand} {t ty : TypeId} {pos : String} {af : Array Edge} (w : World) (cs : List Value) (c j : Nat) (v : Value) (hx : a.eval x = .pointer (some ⟨c, j, none⟩)) (hy : a.eval y = v) (hV : Vr w c cs) (hN : NoB w c) (hj : j < cs.length) (h1 : v.oneCell' = true) (hc : v.cells = #[v]) (hv : ∀ y, v ≠ .int .u8 y) (hi : (Tryd.prog.info? t).map (·.size) = some 1)
    (hK : ∀ w', Vr w' c (cs.set j v) → NoB w' c → Below c w w' → (∀ k, k ≠ c → w'.heap[k]? = w.heap[k]?) → wpList Tryd.prog ops Q rest (a.put d undef) w') :
    wpList Tryd.prog ops Q (⟨d, Op.store t x y, ty, pos, af, none⟩ :: rest) a w := by
  refine wpList_plain rfl fun K hK' => ?_
  have hcell := hV.cell j _ (List.getElem?_eq_getElem hj)
  have hf := hV.free j hj
  have hr : (storeVar t ⟨c, j, none⟩ v).run Tryd.prog w = .ok () (w.setCell ⟨c, j, none⟩ v) := by
    have e0 : ∀ i, i < [v].length → i = 0 := fun i hi => by simpa using hi
    have := run_storeCells_cells (P := Tryd.prog) c j [v] 0 w (fun i hi => by rw [e0 i hi]; simp [hcell]) (fun i hi => by rw [e0 i hi]; simpa using hf) (fun z hz => by simp at hz; subst hz; exact h1)
    cases hq : Tryd.prog.info? t with
    | none => simp [hq] at hi
    | some i =>
      have hs : i.size = 1 := by simpa [hq] using hi
      simp only [Nat.add_zero] at this
      simp [storeVar, sizeOf, typeInfo, hq, hc, hs]
      simpa [World.setCells] using this
  unfold Oper.wp execOp
  simp only [hx, hy, Instr.storeAt, Instr.sureAddr, Sem.run_bind, Sem.run_pure, Result.andThen_ok, hr]
  exact hK' _ _ (hK _ (hV.set j hj v) (hN.one hcell hv) ((Below.refl c w).setCell (p := ⟨c, j, none⟩) (Nat.le_refl _) _) (fun k hk => heap_one w c j v k hk))
theorem size_u64 : (Tryd.prog.info? 22).map (·.size) = some 1 := by kernel_rfl
theorem all_gb (xs ys : List Int) (n : Nat) (hx : xs.length = n) (hy : ys.length = n) : ((List.range' 0 n 1).all fun i => decide (gb xs i = gb ys i)) = decide (xs = ys) := by
  rw [Bool.eq_iff_iff, List.all_eq_true, decide_eq_true_iff]
  constructor
  · intro h
    refine ext_gb (by rw [hx, hy]) fun t ht => ?_
    have := h t (by rw [List.mem_range'_1]; omega)
    simpa using this
  · rintro rfl i _
    simp

/-- two arrays of numbers: are they the same? -/
theorem run_eqlD (w : World) (t e : TypeId) (n : Nat) (k : IntKind) (xs ys : List Int) (hx : xs.length = n) (hy : ys.length = n)
    (hu : Tryd.prog.underlying t = some (.array n e)) (he : Tryd.prog.underlying e = some (.int k)) (hsz : ∀ w, (sizeOf e).run Tryd.prog w = .ok 1 w) :
    (Op.equalIn 10000 t (.agg (ints k xs)) (.agg (ints k ys))).run Tryd.prog w = .ok (decide (xs = ys)) w := by
  rw [← all_gb xs ys n hx hy, show (10000 : Nat) = 9998 + 1 + 1 from rfl, Op.equalIn]
  simp only [Sem.run_bind, run_underlying hu, Result.andThen_ok, hsz, Std.Legacy.Range.forIn_eq_forIn_range', Std.Legacy.Range.size, Nat.sub_zero, Nat.add_sub_cancel, Nat.div_one]
  have hl' : ∀ i ∈ List.range' 0 n 1, i < n := fun i hi => by simpa using (List.mem_range'_1.1 hi).2
  generalize List.range' 0 n 1 = l at hl' ⊢
  induction l with
  | nil => simp
  | cons i l ih =>
    have hi : i < n := hl' i (by simp)
    have px : (Go.part e (ints k xs) (i * 1)).run Tryd.prog w = .ok (.int k (gb xs i)) w := by
      simp [Go.part, isAgg, run_underlying he, ints, gb, List.getD, List.getElem?_eq_getElem (show i < xs.length by omega)]
    have py : (Go.part e (ints k ys) (i * 1)).run Tryd.prog w = .ok (.int k (gb ys i)) w := by
      simp [Go.part, isAgg, run_underlying he, ints, gb, List.getD, List.getElem?_eq_getElem (show i < ys.length by omega)]
    have pe : (Op.equalIn (9998 + 1) e (.int k (gb xs i)) (.int k (gb ys i))).run Tryd.prog w = .ok (decide (gb xs i = gb ys i)) w := by
      rw [run_equalIn_int w 9998 e k k _ _ he]; congr 1
    simp only [List.forIn_cons, Sem.run_bind, px, py, pe, Result.andThen_ok, List.all_cons]
    cases hb : decide (gb xs i = gb ys i)
    · simp
    · simp only [Bool.not_true, Bool.false_eq_true, if_false, Sem.run_pure, Bool.true_and]
      exact ih fun j hj => hl' j (by simp [hj])
theorem run_size_u64 (w : World) : (sizeOf 22).run Tryd.prog w = .ok 1 w := by
  obtain ⟨i, hi, hz⟩ : ∃ i, Tryd.prog.info? 22 = some i ∧ i.size = 1 := by
    have h := size_u64
    cases hq : Tryd.prog.info? 22 with
    | none => simp [hq] at h
    | some i => exact ⟨i, rfl, by simpa [hq] using h⟩
  simp [sizeOf, typeInfo, hi, hz]
theorem guard_nums : Tryd.prog.eqGuardType Tryd.prog.depth 84 = false := by kernel_rfl
/-- two arrays of five numbers are held against each other -/
theorem eql_law {ops : Array Oper} {rest : List Oper} {o : Oper} {a : Act} {Q : Exit → Act → World → Prop} (w : World) (hg : o.guard = none) (x y : Operand) (t' : TypeId) (hop : o.op = Op.binOp .eql 84 x y t') (xs ys : List Int) (hx : a.eval x = .agg (nv xs).toArray) (hy : a.eval y = .agg (nv ys).toArray) (hl : xs.length = 5) (hm : ys.length = 5) (D : Bool) (hD : decide (xs = ys) = D)
    (hK : wpList Tryd.prog ops Q rest (a.put o.dst (.bool D)) w) : wpList Tryd.prog ops Q (o :: rest) a w := by
  subst hD
  refine wpList_plain hg fun K hK' => ?_
  have hx' : a.eval x = .agg (ints .u64 xs) := hx
  have hy' : a.eval y = .agg (ints .u64 ys) := hy
  unfold Oper.wp execOp
  simp only [hop, hx', hy', Sem.run_bind, run_eqGuard_agg w .eql 84 x y _ _ guard_nums, Result.andThen_ok, run_eql_struct, run_eqlD w 84 22 5 .u64 xs ys hl hm Tryd.underlying84 Tryd.underlying22 run_size_u64]
  exact hK' _ _ hK
theorem size_bytes : (Tryd.prog.info? 23).map (·.size) = some 1 := by kernel_rfl
theorem sv_nob (u : Bool) (n e t : Int) (ao : Option Addr) (k cap : Nat) : ∀ v ∈ sv u n e t (.slice ao k cap), ∀ y, v ≠ .int .u8 y := by
  intro v h y q
  subst q
  simp [sv] at h
theorem nv_nob (xs : List Int) : ∀ v ∈ nv xs, ∀ y, v ≠ .int .u8 y := by
  intro v h y q
  subst q
  obtain ⟨x, -, hx⟩ := List.mem_map.1 h
  cases hx
theorem hv_nob (k n c l e t : Int) : ∀ v ∈ he.hv k n c l e t, ∀ y, v ≠ .int .u8 y := by
  intro v h y q
  subst q
  simp [hv] at h
/-- a type of one cell -/
def One (t : TypeId) : Prop := (∃ d, Tryd.prog.underlying t = some d ∧ d.isRow = false) ∧ (Tryd.prog.info? t).map (·.size) = some 1
theorem one_bytes : One 23 := ⟨⟨_, Tryd.underlying23, rfl⟩, by kernel_rfl⟩
theorem one_u64 : One 22 := ⟨⟨_, Tryd.underlying22, rfl⟩, by kernel_rfl⟩
theorem load_one {t : TypeId} (ht : One t) {w : World} {b p : Nat} {v : Value} (h : w.cell? ⟨b, p, none⟩ = some v) : (Instr.loadAt t (.pointer (some ⟨b, p, none⟩))).run Tryd.prog w = .ok v w := by
  obtain ⟨⟨d, hd, hr⟩, -⟩ := ht
  have : (loadVar t ⟨b, p, none⟩).run Tryd.prog w = .ok v w := by
    cases d <;> first | (simp [TypeDesc.isRow] at hr; done) | simp [loadVar, isAgg, run_underlying hd, h]
  simp only [Instr.loadAt, Instr.sureAddr, Sem.run_bind, Sem.run_pure, Result.andThen_ok, this]
theorem exec_build {ev : Operand → Value} {o : Oper} (t : TypeId) (parts : Array (Nat × Operand)) (hop : o.op = Op.build t parts) (v : Value) (w : World) (hrun : (Instr.build t (parts.map fun (i, x) => (i, ev x))).run Tryd.prog w = .ok v w) : (execOp ev o).run Tryd.prog w = .ok (.value v) w := by
  unfold execOp
  simp only [hop, Sem.run_bind, Sem.run_pure, Result.andThen_ok, hrun]
/-- an operation whose guard does not hold -/
theorem skip_law {ops : Array Oper} {rest : List Oper} {o : Oper} {a : Act} {Q : Exit → Act → World → Prop} (w : World) (hw : Region.wanted o (yielded ops a.tmps) = false) (d : Option Tmp) (hd : o.dst = d) (hK : wpList Tryd.prog ops Q rest (a.put d undef) w) : wpList Tryd.prog ops Q (o :: rest) a w := by
  refine wpList_step fun K hK' => ?_
  rw [if_neg (by rw [hw]; exact Bool.false_ne_true)]
  subst hd
  exact hK' _ _ hK
/-- the bounds of a slot's numbers -/
def Sb (n e t : Int) : Prop := (-9223372036854775808 ≤ n ∧ n ≤ 9223372036854775807) ∧ (0 ≤ e ∧ e ≤ 18446744073709551615) ∧ 0 ≤ t ∧ t ≤ 18446744073709551615
theorem form {w : World} {v : Value} {xs : List Int} (h : Byt w v xs) : ∃ ao cap, v = .slice ao xs.length cap := by
  obtain ⟨ao, cap, e, _⟩ := h
  exact ⟨ao, cap, e⟩
theorem hdH {p : Prop} (h : p) : Hid p := h
theorem same_yes (w : World) (va vb : Value) (xs : List Int) (ha : Byt w va xs) (hb : Byt w vb xs) : Calls Tryd.prog 18 #[va, vb] w fun e w' => e = .returned (.bool true) ∧ Below w.heap.size w w' := by
  refine (same_any w va vb xs xs ha hb).mono ?_
  rintro e w' ⟨rfl, n, rfl⟩
  exact ⟨by rw [decide_eq_true rfl], he.below_drawn (Below.refl _ _) n⟩
theorem same_dec (w : World) (va vb : Value) (xs ys : List Int) (ha : Byt w va xs) (hy : Byt w vb ys) : Calls Tryd.prog 18 #[va, vb] w fun e w' => e = .returned (.bool (decide (xs = ys))) ∧ Below w.heap.size w w' :=
  (same_any w va vb xs ys ha hy).mono fun _ _ ⟨h1, n, h2⟩ => ⟨h1, by rw [h2]; exact he.below_drawn (Below.refl _ _) n⟩

theorem cells_bytes : Tryd.prog.cellsOf 23 = 1 := by kernel_rfl
theorem cells_bool : Tryd.prog.cellsOf 4 = 1 := by kernel_rfl
/-- one cell that is read as a slice of bytes -/
theorem byt_cells {H : Type} {enc : TypeId × Value → H} {W : World} {fuel : Nat} {v : Value} {x : DataW H × List MemPlace}
    (hf : DataW.trod enc Tryd.prog W 0 (fun _ => true) true fuel 23 [v] = some x) : ∃ xs, Byt W v xs := by
  rcases open_ints Tryd.underlying23 Tryd.underlying5 cells_u8 hf with ⟨hcs, hx⟩ | ⟨a, len, cap, zs, hcs, _, hl, hm, hz, hx, hcell, hwz⟩
  · obtain rfl : v = .slice none 0 0 := by simpa using hcs
    exact ⟨[], Byt.nil W⟩
  · obtain rfl : v = .slice (some a) len cap := by simpa using hcs
    simp at hz
    have hlen : (zs.take len).length = len := by simp; omega
    have hgb : ∀ t, t < len → gb (zs.take len) t = zs.getD t 0 := fun t ht => by simp [gb, List.getD, ht]
    refine ⟨zs.take len, some a, cap, by rw [hlen], by omega, by simpa [maxLen] using hm, allB_mem fun x hx => bounds_u8 (hwz x (List.mem_of_mem_take hx)), (by intro h; cases h), fun hp => ?_⟩
    obtain ⟨b, off, rfl, hc⟩ := ints_at hcell (by omega)
    refine ⟨b, off, rfl, fun t ht => ?_⟩
    rw [hgb t (by omega)]
    exact hc t (by omega)
theorem cells_slot : Tryd.prog.cellsOf 25 = 5 := by kernel_rfl
/-- an argument that is a slot -/
theorem slot_open {H : Type} {enc : TypeId × Value → H} {W : World} {base : Nat} {v : Value} {d : DataW H} {ps : List MemPlace}
    (ok : Value.okWide Tryd.prog W .any base 25 v) (h : DataW.Trod enc Tryd.prog W 0 (fun _ => true) true 25 v d ps) : ∃ u n e t x xs, v = .agg (sv u n e t x).toArray ∧ Sb n e t ∧ Byt W x xs := by
  simp only [Value.okWide, Tryd.underlying25] at ok
  obtain ⟨cs, rfl, h2, _⟩ := ok
  rw [cells_slot] at h2
  obtain ⟨l⟩ := cs
  obtain ⟨c0, c1, c2, c3, c4, rfl⟩ : ∃ c0 c1 c2 c3 c4, l = [c0, c1, c2, c3, c4] := by
    match l, h2 with
    | [c0, c1, c2, c3, c4], _ => exact ⟨c0, c1, c2, c3, c4, rfl⟩
  obtain ⟨fuel, hf⟩ := h
  obtain ⟨xs, n, -, -, -, hlen, hall⟩ := DataW.trod_struct Tryd.underlying25 hf
  match xs, hlen with
  | [y0, y1, y2, y3, y4], _ =>
    have a0 := hall 0 _ rfl
    have a1 := hall 1 _ rfl
    have a2 := hall 2 _ rfl
    have a3 := hall 3 _ rfl
    have a4 := hall 4 _ rfl
    simp [cells_int, cells_u64, cells_bytes, cells_bool, Value.cells] at a0 a1 a2 a3 a4
    obtain ⟨b0, hb0, -⟩ := DataW.trod_bool Tryd.underlying4 a0
    obtain rfl : c0 = .bool b0 := by simpa using hb0
    obtain ⟨n1, rfl, w1⟩ := num_cell Tryd.underlying3 a1
    obtain ⟨n2, rfl, w2⟩ := num_cell Tryd.underlying22 a2
    obtain ⟨n3, rfl, w3⟩ := num_cell Tryd.underlying22 a3
    obtain ⟨zs, b4⟩ := byt_cells a4
    exact ⟨b0, n1, n2, n3, c4, zs, rfl, ⟨bounds_i64 w1, bounds_u64 w2, bounds_u64 w3⟩, b4⟩
end Go.Proofs.YtmbfccclghnaeaaDoor.so

/- What slot's isSize, numbersOf and Right answer. No claim of its own. -/
namespace Go.Proofs.YtmbfccclghnaeaaDoor.so
open Go.RowKit Go.Proofs.YtmbfccclghnaeaaDoor.fa Go.Proofs.YtmbfccclghnaeaaDoor.he
set_option maxRecDepth 20000

theorem ret_bool {a b : Bool} (h : a = b) : Ending.returned (.bool a) = .returned (.bool b) := by rw [h]

set_option maxHeartbeats 1000000 in
theorem size_any (n : Int) (w : World) (b : Bool) (hb : b = decide (1 ≤ n ∧ n ≤ 65535)) :
    Calls Tryd.prog 54 #[.int .i64 n] w fun x w' => x = .returned (.bool b) ∧ w' = w := by
  have HB : Hid (b = decide (1 ≤ n ∧ n ≤ 65535)) := hb
  clear hb
  by_cases a0 : n ≥ 1
  · by_cases a1 : n ≤ 65535
    · go_enter Tryd.func54, Tryd.ntmps54
      go_wp2
      go_ret
      exact ⟨ret_bool (by rw [HB.out]; simp; omega), rfl⟩
    · go_enter Tryd.func54, Tryd.ntmps54
      go_wp2
      go_ret
      exact ⟨ret_bool (by rw [HB.out]; simp; omega), rfl⟩
  · go_enter Tryd.func54, Tryd.ntmps54
    go_wp2
    go_ret
    exact ⟨ret_bool (by rw [HB.out]; simp; omega), rfl⟩

set_option maxHeartbeats 4000000 in
theorem nums_used (n e t N : Int) (v : Value) (w : World) (hN : IntKind.u64.wrap n = N) :
    Calls Tryd.prog 51 #[.agg (sv true n e t v).toArray] w fun x w' => x = .returned (.agg (nv [1, 0, N, e, t]).toArray) ∧ Below w.heap.size w w' := by
  have t0 : (0 : Nat) = 0 := rfl
  go_enter Tryd.func51, Tryd.ntmps51
  go_wp2_with (first
    | (have q6 := t6; (with_reducible refine at_store ?_); refine store_lawC _ (nv [1, 0, N, e, t]) w1.heap.size 0 rfl rfl HR.out.2 rowy_nums.2 (nv_one _) ?_; intro w6 E9 R9 T9 B9; have K9 : ∀ k, k ≠ w1.heap.size → w6.heap[k]? = w5.heap[k]? := (by rw [E9.out]; exact fun k hk => heap_cells _ _ _ _ k hk); have HB0 : Hid (Vr w6 w.heap.size (sv true n e t v)) := HB0.out.heap (K9 _ (Nat.ne_of_lt LT_HB0_HR.out)); have NB_HG : Hid (NoB w6 w2.heap.size) := NB_HG.out.heap (K9 _ (Nat.ne_of_gt LT_HR_HG.out)); have HG : Hid (Vr w6 w2.heap.size (nv [1, 0, N, e, t])) := HG.out.heap (K9 _ (Nat.ne_of_gt LT_HR_HG.out)); have NB_HR : Hid (NoB w6 w1.heap.size) := (by rw [E9.out]; exact NB_HR.out.set HR.out rfl (nv_nob _)); have HR : Hid (Vr w6 w1.heap.size (nv [1, 0, N, e, t])) := ⟨R9, T9⟩; have BB : Hid (Below w.heap.size w w6) := BB.out.trans (B9.mono LE_HR.out); clear hb0_0 hb0_1 hb0_2 hb0_3 hb0_4; have hb0_0 := HB0.out.cell 0 _ rfl; have hb0_1 := HB0.out.cell 1 _ rfl; have hb0_2 := HB0.out.cell 2 _ rfl; have hb0_3 := HB0.out.cell 3 _ rfl; have hb0_4 := HB0.out.cell 4 _ rfl; clear E9 R9 T9 B9 K9; clear t6; have t7 : (1 : Nat) = 1 := rfl)
    | (have q5 := t5; refine load_lawC _ rfl (nv [1, 0, N, e, t]) w2.heap.size 0 rfl HG.out.1 rowy_nums ?_; clear t5; have t6 : (1 : Nat) = 1 := rfl)
    | (have q4 := t4; (with_reducible refine at_store ?_); refine set_lawC _ (nv [0, 0, N, e, t]) w2.heap.size 0 (.int .u64 1) rfl rfl HG.out NB_HG.out (show (0 : Nat) < 5 by decide) rfl rfl (fun y q => by cases q) size_u64 ?_; have NBo := NB_HG; intro w5 R9 N9 B9 K9; have HB0 : Hid (Vr w5 w.heap.size (sv true n e t v)) := HB0.out.heap (K9 _ (Nat.ne_of_lt LT_HB0_HG.out)); have NB_HR : Hid (NoB w5 w1.heap.size) := NB_HR.out.heap (K9 _ (Nat.ne_of_lt LT_HR_HG.out)); have HR : Hid (Vr w5 w1.heap.size (nv [0, 0, 0, 0, 0])) := HR.out.heap (K9 _ (Nat.ne_of_lt LT_HR_HG.out)); have NB_HG : Hid (NoB w5 w2.heap.size) := N9; have HG : Hid (Vr w5 w2.heap.size (nv [1, 0, N, e, t])) := R9; have BB : Hid (Below w.heap.size w w5) := BB.out.trans (B9.mono LE_HG.out); clear hb0_0 hb0_1 hb0_2 hb0_3 hb0_4; have hb0_0 := HB0.out.cell 0 _ rfl; have hb0_1 := HB0.out.cell 1 _ rfl; have hb0_2 := HB0.out.cell 2 _ rfl; have hb0_3 := HB0.out.cell 3 _ rfl; have hb0_4 := HB0.out.cell 4 _ rfl; clear R9 N9 B9 K9 NBo; clear t4; have t5 : (1 : Nat) = 1 := rfl)
    | (have q3 := t3; (with_reducible refine at_store ?_); refine store_lawC _ (nv [0, 0, N, e, t]) w2.heap.size 0 rfl rfl HG.out.2 rowy_nums.2 (nv_one _) ?_; intro w4 E9 R9 T9 B9; have K9 : ∀ k, k ≠ w2.heap.size → w4.heap[k]? = w3.heap[k]? := (by rw [E9.out]; exact fun k hk => heap_cells _ _ _ _ k hk); have HB0 : Hid (Vr w4 w.heap.size (sv true n e t v)) := HB0.out.heap (K9 _ (Nat.ne_of_lt LT_HB0_HG.out)); have NB_HR : Hid (NoB w4 w1.heap.size) := NB_HR.out.heap (K9 _ (Nat.ne_of_lt LT_HR_HG.out)); have HR : Hid (Vr w4 w1.heap.size (nv [0, 0, 0, 0, 0])) := HR.out.heap (K9 _ (Nat.ne_of_lt LT_HR_HG.out)); have NB_HG : Hid (NoB w4 w2.heap.size) := (by rw [E9.out]; exact NB_HG.out.set HG.out rfl (nv_nob _)); have HG : Hid (Vr w4 w2.heap.size (nv [0, 0, N, e, t])) := ⟨R9, T9⟩; have BB : Hid (Below w.heap.size w w4) := BB.out.trans (B9.mono LE_HG.out); clear hb0_0 hb0_1 hb0_2 hb0_3 hb0_4; have hb0_0 := HB0.out.cell 0 _ rfl; have hb0_1 := HB0.out.cell 1 _ rfl; have hb0_2 := HB0.out.cell 2 _ rfl; have hb0_3 := HB0.out.cell 3 _ rfl; have hb0_4 := HB0.out.cell 4 _ rfl; clear E9 R9 T9 B9 K9; clear t3; have t4 : (1 : Nat) = 1 := rfl)
    | (have q2 := t2; (with_reducible refine at_alloc ?_); refine new_lawN _ (nv [0, 0, 0, 0, 0]) zero_nums (nv_nob _) ?_; intro w3 X9 N9 B9; have LT_HB0_HG : Hid (w.heap.size < w2.heap.size) := range_lt HB0.out.1 (Nat.succ_pos _); have LT_HR_HG : Hid (w1.heap.size < w2.heap.size) := range_lt HR.out.1 (Nat.succ_pos _); have LE_HG : Hid (w.heap.size ≤ w2.heap.size) := BB.out.size; have HB0 : Hid (Vr w3 w.heap.size (sv true n e t v)) := HB0.out.below B9 (range_lt HB0.out.1 (Nat.succ_pos _)); have NB_HR : Hid (NoB w3 w1.heap.size) := NB_HR.out.heap (B9.block _ (range_lt HR.out.1 (Nat.succ_pos _))); have HR : Hid (Vr w3 w1.heap.size (nv [0, 0, 0, 0, 0])) := HR.out.below B9 (range_lt HR.out.1 (Nat.succ_pos _)); have HG : Hid (Vr w3 w2.heap.size (nv [0, 0, 0, 0, 0])) := X9; have NB_HG : Hid (NoB w3 w2.heap.size) := N9; have BB : Hid (Below w.heap.size w w3) := BB.out.trans (B9.mono BB.out.size); clear hb0_0 hb0_1 hb0_2 hb0_3 hb0_4; have hb0_0 := HB0.out.cell 0 _ rfl; have hb0_1 := HB0.out.cell 1 _ rfl; have hb0_2 := HB0.out.cell 2 _ rfl; have hb0_3 := HB0.out.cell 3 _ rfl; have hb0_4 := HB0.out.cell 4 _ rfl; clear X9 N9 B9; clear t2; have t3 : (1 : Nat) = 1 := rfl)
    | (have q1 := t1; (with_reducible refine at_alloc ?_); refine new_lawN _ (nv [0, 0, 0, 0, 0]) zero_nums (nv_nob _) ?_; intro w2 X9 N9 B9; have LT_HB0_HR : Hid (w.heap.size < w1.heap.size) := range_lt HB0.out.1 (Nat.succ_pos _); have LE_HR : Hid (w.heap.size ≤ w1.heap.size) := BB.out.size; have HB0 : Hid (Vr w2 w.heap.size (sv true n e t v)) := HB0.out.below B9 (range_lt HB0.out.1 (Nat.succ_pos _)); have HR : Hid (Vr w2 w1.heap.size (nv [0, 0, 0, 0, 0])) := X9; have NB_HR : Hid (NoB w2 w1.heap.size) := N9; have BB : Hid (Below w.heap.size w w2) := BB.out.trans (B9.mono BB.out.size); clear hb0_0 hb0_1 hb0_2 hb0_3 hb0_4; have hb0_0 := HB0.out.cell 0 _ rfl; have hb0_1 := HB0.out.cell 1 _ rfl; have hb0_2 := HB0.out.cell 2 _ rfl; have hb0_3 := HB0.out.cell 3 _ rfl; have hb0_4 := HB0.out.cell 4 _ rfl; clear X9 N9 B9; clear t1; have t2 : (1 : Nat) = 1 := rfl)
    | (have q0 := t0; refine box_lawC _ (sv true n e t v) rfl ?_; intro w1 X9 B9 l9; have HB0 : Hid (Vr w1 w.heap.size (sv true n e t v)) := X9; have BB : Hid (Below w.heap.size w w1) := B9; have hb0_0 := HB0.out.cell 0 _ rfl; have hb0_1 := HB0.out.cell 1 _ rfl; have hb0_2 := HB0.out.cell 2 _ rfl; have hb0_3 := HB0.out.cell 3 _ rfl; have hb0_4 := HB0.out.cell 4 _ rfl; clear X9 B9 l9; clear t0; have t1 : (1 : Nat) = 1 := rfl))
  exact bodyPost_ret (v := .agg (nv [1, 0, N, e, t]).toArray) (results_c rfl _ _ w1.heap.size _ rowy_nums rfl HR.out.1) rfl ⟨rfl, BB.out⟩

set_option maxHeartbeats 4000000 in
theorem nums_free (n e t N : Int) (v : Value) (w : World) (hN : IntKind.u64.wrap n = N) :
    Calls Tryd.prog 51 #[.agg (sv false n e t v).toArray] w fun x w' => x = .returned (.agg (nv [0, 0, N, e, t]).toArray) ∧ Below w.heap.size w w' := by
  have t0 : (0 : Nat) = 0 := rfl
  go_enter Tryd.func51, Tryd.ntmps51
  go_wp2_with (first
    | (have q5 := t5; (with_reducible refine at_store ?_); refine store_lawC _ (nv [0, 0, N, e, t]) w1.heap.size 0 rfl rfl HR.out.2 rowy_nums.2 (nv_one _) ?_; intro w5 E9 R9 T9 B9; have K9 : ∀ k, k ≠ w1.heap.size → w5.heap[k]? = w4.heap[k]? := (by rw [E9.out]; exact fun k hk => heap_cells _ _ _ _ k hk); have HB0 : Hid (Vr w5 w.heap.size (sv false n e t v)) := HB0.out.heap (K9 _ (Nat.ne_of_lt LT_HB0_HR.out)); have NB_HG : Hid (NoB w5 w2.heap.size) := NB_HG.out.heap (K9 _ (Nat.ne_of_gt LT_HR_HG.out)); have HG : Hid (Vr w5 w2.heap.size (nv [0, 0, N, e, t])) := HG.out.heap (K9 _ (Nat.ne_of_gt LT_HR_HG.out)); have NB_HR : Hid (NoB w5 w1.heap.size) := (by rw [E9.out]; exact NB_HR.out.set HR.out rfl (nv_nob _)); have HR : Hid (Vr w5 w1.heap.size (nv [0, 0, N, e, t])) := ⟨R9, T9⟩; have BB : Hid (Below w.heap.size w w5) := BB.out.trans (B9.mono LE_HR.out); clear hb0_0 hb0_1 hb0_2 hb0_3 hb0_4; have hb0_0 := HB0.out.cell 0 _ rfl; have hb0_1 := HB0.out.cell 1 _ rfl; have hb0_2 := HB0.out.cell 2 _ rfl; have hb0_3 := HB0.out.cell 3 _ rfl; have hb0_4 := HB0.out.cell 4 _ rfl; clear E9 R9 T9 B9 K9; clear t5; have t6 : (1 : Nat) = 1 := rfl)
    | (have q4 := t4; refine load_lawC _ rfl (nv [0, 0, N, e, t]) w2.heap.size 0 rfl HG.out.1 rowy_nums ?_; clear t4; have t5 : (1 : Nat) = 1 := rfl)
    | (have q3 := t3; (with_reducible refine at_store ?_); refine store_lawC _ (nv [0, 0, N, e, t]) w2.heap.size 0 rfl rfl HG.out.2 rowy_nums.2 (nv_one _) ?_; intro w4 E9 R9 T9 B9; have K9 : ∀ k, k ≠ w2.heap.size → w4.heap[k]? = w3.heap[k]? := (by rw [E9.out]; exact fun k hk => heap_cells _ _ _ _ k hk); have HB0 : Hid (Vr w4 w.heap.size (sv false n e t v)) := HB0.out.heap (K9 _ (Nat.ne_of_lt LT_HB0_HG.out)); have NB_HR : Hid (NoB w4 w1.heap.size) := NB_HR.out.heap (K9 _ (Nat.ne_of_lt LT_HR_HG.out)); have HR : Hid (Vr w4 w1.heap.size (nv [0, 0, 0, 0, 0])) := HR.out.heap (K9 _ (Nat.ne_of_lt LT_HR_HG.out)); have NB_HG : Hid (NoB w4 w2.heap.size) := (by rw [E9.out]; exact NB_HG.out.set HG.out rfl (nv_nob _)); have HG : Hid (Vr w4 w2.heap.size (nv [0, 0, N, e, t])) := ⟨R9, T9⟩; have BB : Hid (Below w.heap.size w w4) := BB.out.trans (B9.mono LE_HG.out); clear hb0_0 hb0_1 hb0_2 hb0_3 hb0_4; have hb0_0 := HB0.out.cell 0 _ rfl; have hb0_1 := HB0.out.cell 1 _ rfl; have hb0_2 := HB0.out.cell 2 _ rfl; have hb0_3 := HB0.out.cell 3 _ rfl; have hb0_4 := HB0.out.cell 4 _ rfl; clear E9 R9 T9 B9 K9; clear t3; have t4 : (1 : Nat) = 1 := rfl)
    | (have q2 := t2; (with_reducible refine at_alloc ?_); refine new_lawN _ (nv [0, 0, 0, 0, 0]) zero_nums (nv_nob _) ?_; intro w3 X9 N9 B9; have LT_HB0_HG : Hid (w.heap.size < w2.heap.size) := range_lt HB0.out.1 (Nat.succ_pos _); have LT_HR_HG : Hid (w1.heap.size < w2.heap.size) := range_lt HR.out.1 (Nat.succ_pos _); have LE_HG : Hid (w.heap.size ≤ w2.heap.size) := BB.out.size; have HB0 : Hid (Vr w3 w.heap.size (sv false n e t v)) := HB0.out.below B9 (range_lt HB0.out.1 (Nat.succ_pos _)); have NB_HR : Hid (NoB w3 w1.heap.size) := NB_HR.out.heap (B9.block _ (range_lt HR.out.1 (Nat.succ_pos _))); have HR : Hid (Vr w3 w1.heap.size (nv [0, 0, 0, 0, 0])) := HR.out.below B9 (range_lt HR.out.1 (Nat.succ_pos _)); have HG : Hid (Vr w3 w2.heap.size (nv [0, 0, 0, 0, 0])) := X9; have NB_HG : Hid (NoB w3 w2.heap.size) := N9; have BB : Hid (Below w.heap.size w w3) := BB.out.trans (B9.mono BB.out.size); clear hb0_0 hb0_1 hb0_2 hb0_3 hb0_4; have hb0_0 := HB0.out.cell 0 _ rfl; have hb0_1 := HB0.out.cell 1 _ rfl; have hb0_2 := HB0.out.cell 2 _ rfl; have hb0_3 := HB0.out.cell 3 _ rfl; have hb0_4 := HB0.out.cell 4 _ rfl; clear X9 N9 B9; clear t2; have t3 : (1 : Nat) = 1 := rfl)
    | (have q1 := t1; (with_reducible refine at_alloc ?_); refine new_lawN _ (nv [0, 0, 0, 0, 0]) zero_nums (nv_nob _) ?_; intro w2 X9 N9 B9; have LT_HB0_HR : Hid (w.heap.size < w1.heap.size) := range_lt HB0.out.1 (Nat.succ_pos _); have LE_HR : Hid (w.heap.size ≤ w1.heap.size) := BB.out.size; have HB0 : Hid (Vr w2 w.heap.size (sv false n e t v)) := HB0.out.below B9 (range_lt HB0.out.1 (Nat.succ_pos _)); have HR : Hid (Vr w2 w1.heap.size (nv [0, 0, 0, 0, 0])) := X9; have NB_HR : Hid (NoB w2 w1.heap.size) := N9; have BB : Hid (Below w.heap.size w w2) := BB.out.trans (B9.mono BB.out.size); clear hb0_0 hb0_1 hb0_2 hb0_3 hb0_4; have hb0_0 := HB0.out.cell 0 _ rfl; have hb0_1 := HB0.out.cell 1 _ rfl; have hb0_2 := HB0.out.cell 2 _ rfl; have hb0_3 := HB0.out.cell 3 _ rfl; have hb0_4 := HB0.out.cell 4 _ rfl; clear X9 N9 B9; clear t1; have t2 : (1 : Nat) = 1 := rfl)
    | (have q0 := t0; refine box_lawC _ (sv false n e t v) rfl ?_; intro w1 X9 B9 l9; have HB0 : Hid (Vr w1 w.heap.size (sv false n e t v)) := X9; have BB : Hid (Below w.heap.size w w1) := B9; have hb0_0 := HB0.out.cell 0 _ rfl; have hb0_1 := HB0.out.cell 1 _ rfl; have hb0_2 := HB0.out.cell 2 _ rfl; have hb0_3 := HB0.out.cell 3 _ rfl; have hb0_4 := HB0.out.cell 4 _ rfl; clear X9 B9 l9; clear t0; have t1 : (1 : Nat) = 1 := rfl))
  exact bodyPost_ret (v := .agg (nv [0, 0, N, e, t]).toArray) (results_c rfl _ _ w1.heap.size _ rowy_nums rfl HR.out.1) rfl ⟨rfl, BB.out⟩

set_option maxHeartbeats 4000000 in
theorem right_size (n e t : Int) (v : Value) (xs : List Int) (w : World) (hv : Byt w v xs) (hs : ¬ (1 ≤ n ∧ n ≤ 65535)) :
    Calls Tryd.prog 33 #[.agg (sv true n e t v).toArray] w fun x w' => x = .returned (.bool false) ∧ Below w.heap.size w w' := by
  obtain ⟨ao, cap, rfl⟩ := form hv
  have SZ : Hid (∀ w0, Calls Tryd.prog 54 #[.int .i64 n] w0 fun x w' => x = .returned (.bool false) ∧ Below w0.heap.size w0 w') := fun w0 => (size_any n w0 false ((decide_eq_false hs).symm)).mono fun _ _ ⟨h1, h2⟩ => ⟨h1, by rw [h2]; exact Below.refl _ _⟩
  clear hs
  clear hv
  have t0 : (0 : Nat) = 0 := rfl
  go_enter Tryd.func33, Tryd.ntmps33
  go_wp2_with (first
    | (have q1 := t1; go_at_call 54; refine (SZ.out w1).mono ?_; rintro e9 w2 ⟨rfl, B9⟩; have HB0 : Hid (Vr w2 w.heap.size (sv true n e t (.slice ao xs.length cap))) := HB0.out.below B9 (range_lt HB0.out.1 (Nat.succ_pos _)); have BB : Hid (Below w.heap.size w w2) := BB.out.trans (B9.mono BB.out.size); clear hb0_0 hb0_1 hb0_2 hb0_3 hb0_4; have hb0_0 := HB0.out.cell 0 _ rfl; have hb0_1 := HB0.out.cell 1 _ rfl; have hb0_2 := HB0.out.cell 2 _ rfl; have hb0_3 := HB0.out.cell 3 _ rfl; have hb0_4 := HB0.out.cell 4 _ rfl; clear B9; clear t1; have t2 : (1 : Nat) = 1 := rfl)
    | (have q0 := t0; refine box_lawC _ (sv true n e t (.slice ao xs.length cap)) rfl ?_; intro w1 X9 B9 l9; have HB0 : Hid (Vr w1 w.heap.size (sv true n e t (.slice ao xs.length cap))) := X9; have BB : Hid (Below w.heap.size w w1) := B9; have hb0_0 := HB0.out.cell 0 _ rfl; have hb0_1 := HB0.out.cell 1 _ rfl; have hb0_2 := HB0.out.cell 2 _ rfl; have hb0_3 := HB0.out.cell 3 _ rfl; have hb0_4 := HB0.out.cell 4 _ rfl; clear X9 B9 l9; clear t0; have t1 : (1 : Nat) = 1 := rfl))
  go_ret
  exact ⟨rfl, BB.out⟩

set_option maxHeartbeats 4000000 in
theorem right_used (n e t : Int) (v : Value) (xs : List Int) (w : World) (hv : Byt w v xs) (b : Bool) (hs : 1 ≤ n ∧ n ≤ 65535) (hn : ((xs.length : Int) == 104) = b) :
    Calls Tryd.prog 33 #[.agg (sv true n e t v).toArray] w fun x w' => x = .returned (.bool b) ∧ Below w.heap.size w w' := by
  obtain ⟨ao, cap, rfl⟩ := form hv
  have SZ : Hid (∀ w0, Calls Tryd.prog 54 #[.int .i64 n] w0 fun x w' => x = .returned (.bool true) ∧ Below w0.heap.size w0 w') := fun w0 => (size_any n w0 true ((decide_eq_true hs).symm)).mono fun _ _ ⟨h1, h2⟩ => ⟨h1, by rw [h2]; exact Below.refl _ _⟩
  clear hs
  clear hv
  have t0 : (0 : Nat) = 0 := rfl
  go_enter Tryd.func33, Tryd.ntmps33
  go_wp2_with (first
    | (have q1 := t1; go_at_call 54; refine (SZ.out w1).mono ?_; rintro e9 w2 ⟨rfl, B9⟩; have HB0 : Hid (Vr w2 w.heap.size (sv true n e t (.slice ao xs.length cap))) := HB0.out.below B9 (range_lt HB0.out.1 (Nat.succ_pos _)); have BB : Hid (Below w.heap.size w w2) := BB.out.trans (B9.mono BB.out.size); clear hb0_0 hb0_1 hb0_2 hb0_3 hb0_4; have hb0_0 := HB0.out.cell 0 _ rfl; have hb0_1 := HB0.out.cell 1 _ rfl; have hb0_2 := HB0.out.cell 2 _ rfl; have hb0_3 := HB0.out.cell 3 _ rfl; have hb0_4 := HB0.out.cell 4 _ rfl; clear B9; clear t1; have t2 : (1 : Nat) = 1 := rfl)
    | (have q0 := t0; refine box_lawC _ (sv true n e t (.slice ao xs.length cap)) rfl ?_; intro w1 X9 B9 l9; have HB0 : Hid (Vr w1 w.heap.size (sv true n e t (.slice ao xs.length cap))) := X9; have BB : Hid (Below w.heap.size w w1) := B9; have hb0_0 := HB0.out.cell 0 _ rfl; have hb0_1 := HB0.out.cell 1 _ rfl; have hb0_2 := HB0.out.cell 2 _ rfl; have hb0_3 := HB0.out.cell 3 _ rfl; have hb0_4 := HB0.out.cell 4 _ rfl; clear X9 B9 l9; clear t0; have t1 : (1 : Nat) = 1 := rfl))
  go_ret
  exact ⟨rfl, BB.out⟩

set_option maxHeartbeats 4000000 in
theorem right_nums (n e t : Int) (v : Value) (xs : List Int) (w : World) (hv : Byt w v xs) (hd : decide ([0, 0, IntKind.u64.wrap n, e, t] = ([0, 0, 0, 0, 0] : List Int)) = false) :
    Calls Tryd.prog 33 #[.agg (sv false n e t v).toArray] w fun x w' => x = .returned (.bool false) ∧ Below w.heap.size w w' := by
  obtain ⟨ao, cap, rfl⟩ := form hv
  have SN : Hid (∀ w0, Calls Tryd.prog 51 #[.agg (sv false n e t (.slice ao xs.length cap)).toArray] w0 fun x w' => x = .returned (.agg (nv [0, 0, IntKind.u64.wrap n, e, t]).toArray) ∧ Below w0.heap.size w0 w') := fun w0 => nums_free n e t _ _ w0 rfl
  have HD : Hid (decide ([0, 0, IntKind.u64.wrap n, e, t] = [0, 0, 0, 0, 0]) = false) := hd
  clear hd
  generalize IntKind.u64.wrap n = N at SN HD
  clear hv
  have t0 : (0 : Nat) = 0 := rfl
  go_enter Tryd.func33, Tryd.ntmps33
  go_wp2_with (first
    | (have q4 := t4; refine eql_law _ rfl _ _ _ rfl [0, 0, N, e, t] [0, 0, 0, 0, 0] rfl rfl rfl rfl false HD.out ?_; clear t4; have t5 : (1 : Nat) = 1 := rfl)
    | (have q3 := t3; refine build_law _ rfl 84 _ rfl (.agg (nv [0, 0, 0, 0, 0]).toArray) (by kernel_rfl) ?_; clear t3; have t4 : (1 : Nat) = 1 := rfl)
    | (have q2 := t2; go_at_call 51; refine (SN.out w1).mono ?_; rintro e9 w2 ⟨rfl, B9⟩; have HB0 : Hid (Vr w2 w.heap.size (sv false n e t (.slice ao xs.length cap))) := HB0.out.below B9 (range_lt HB0.out.1 (Nat.succ_pos _)); have BB : Hid (Below w.heap.size w w2) := BB.out.trans (B9.mono BB.out.size); clear hb0_0 hb0_1 hb0_2 hb0_3 hb0_4; have hb0_0 := HB0.out.cell 0 _ rfl; have hb0_1 := HB0.out.cell 1 _ rfl; have hb0_2 := HB0.out.cell 2 _ rfl; have hb0_3 := HB0.out.cell 3 _ rfl; have hb0_4 := HB0.out.cell 4 _ rfl; clear B9; clear t2; have t3 : (1 : Nat) = 1 := rfl)
    | (have q1 := t1; refine load_lawC _ rfl (sv false n e t (.slice ao xs.length cap)) w.heap.size 0 rfl HB0.out.1 rowy_slot ?_; clear t1; have t2 : (1 : Nat) = 1 := rfl)
    | (have q0 := t0; refine box_lawC _ (sv false n e t (.slice ao xs.length cap)) rfl ?_; intro w1 X9 B9 l9; have HB0 : Hid (Vr w1 w.heap.size (sv false n e t (.slice ao xs.length cap))) := X9; have BB : Hid (Below w.heap.size w w1) := B9; have hb0_0 := HB0.out.cell 0 _ rfl; have hb0_1 := HB0.out.cell 1 _ rfl; have hb0_2 := HB0.out.cell 2 _ rfl; have hb0_3 := HB0.out.cell 3 _ rfl; have hb0_4 := HB0.out.cell 4 _ rfl; clear X9 B9 l9; clear t0; have t1 : (1 : Nat) = 1 := rfl))
  go_ret
  exact ⟨rfl, BB.out⟩

set_option maxHeartbeats 4000000 in
theorem right_free (n e t : Int) (v : Value) (xs : List Int) (w : World) (hv : Byt w v xs) (b : Bool) (hd : decide ([0, 0, IntKind.u64.wrap n, e, t] = ([0, 0, 0, 0, 0] : List Int)) = true) (hn : ((xs.length : Int) == 0) = b) :
    Calls Tryd.prog 33 #[.agg (sv false n e t v).toArray] w fun x w' => x = .returned (.bool b) ∧ Below w.heap.size w w' := by
  obtain ⟨ao, cap, rfl⟩ := form hv
  have SN : Hid (∀ w0, Calls Tryd.prog 51 #[.agg (sv false n e t (.slice ao xs.length cap)).toArray] w0 fun x w' => x = .returned (.agg (nv [0, 0, IntKind.u64.wrap n, e, t]).toArray) ∧ Below w0.heap.size w0 w') := fun w0 => nums_free n e t _ _ w0 rfl
  have HD : Hid (decide ([0, 0, IntKind.u64.wrap n, e, t] = [0, 0, 0, 0, 0]) = true) := hd
  clear hd
  generalize IntKind.u64.wrap n = N at SN HD
  clear hv
  have t0 : (0 : Nat) = 0 := rfl
  go_enter Tryd.func33, Tryd.ntmps33
  go_wp2_with (first
    | (have q4 := t4; refine eql_law _ rfl _ _ _ rfl [0, 0, N, e, t] [0, 0, 0, 0, 0] rfl rfl rfl rfl true HD.out ?_; clear t4; have t5 : (1 : Nat) = 1 := rfl)
    | (have q3 := t3; refine build_law _ rfl 84 _ rfl (.agg (nv [0, 0, 0, 0, 0]).toArray) (by kernel_rfl) ?_; clear t3; have t4 : (1 : Nat) = 1 := rfl)
    | (have q2 := t2; go_at_call 51; refine (SN.out w1).mono ?_; rintro e9 w2 ⟨rfl, B9⟩; have HB0 : Hid (Vr w2 w.heap.size (sv false n e t (.slice ao xs.length cap))) := HB0.out.below B9 (range_lt HB0.out.1 (Nat.succ_pos _)); have BB : Hid (Below w.heap.size w w2) := BB.out.trans (B9.mono BB.out.size); clear hb0_0 hb0_1 hb0_2 hb0_3 hb0_4; have hb0_0 := HB0.out.cell 0 _ rfl; have hb0_1 := HB0.out.cell 1 _ rfl; have hb0_2 := HB0.out.cell 2 _ rfl; have hb0_3 := HB0.out.cell 3 _ rfl; have hb0_4 := HB0.out.cell 4 _ rfl; clear B9; clear t2; have t3 : (1 : Nat) = 1 := rfl)
    | (have q1 := t1; refine load_lawC _ rfl (sv false n e t (.slice ao xs.length cap)) w.heap.size 0 rfl HB0.out.1 rowy_slot ?_; clear t1; have t2 : (1 : Nat) = 1 := rfl)
    | (have q0 := t0; refine box_lawC _ (sv false n e t (.slice ao xs.length cap)) rfl ?_; intro w1 X9 B9 l9; have HB0 : Hid (Vr w1 w.heap.size (sv false n e t (.slice ao xs.length cap))) := X9; have BB : Hid (Below w.heap.size w w1) := B9; have hb0_0 := HB0.out.cell 0 _ rfl; have hb0_1 := HB0.out.cell 1 _ rfl; have hb0_2 := HB0.out.cell 2 _ rfl; have hb0_3 := HB0.out.cell 3 _ rfl; have hb0_4 := HB0.out.cell 4 _ rfl; clear X9 B9 l9; clear t0; have t1 : (1 : Nat) = 1 := rfl))
  go_ret
  exact ⟨rfl, BB.out⟩

theorem wrap_zero {n : Int} (h : -9223372036854775808 ≤ n ∧ n ≤ 9223372036854775807) : IntKind.u64.wrap n = 0 ↔ n = 0 := by
  rw [IntKind.wrap_u64]
  omega
theorem nums_zero {n e t : Int} (h : -9223372036854775808 ≤ n ∧ n ≤ 9223372036854775807) : [0, 0, IntKind.u64.wrap n, e, t] = ([0, 0, 0, 0, 0] : List Int) ↔ n = 0 ∧ e = 0 ∧ t = 0 := by
  simp [wrap_zero h]
/-- a right slot -/
theorem right_yes (u : Bool) (n e t : Int) (v : Value) (xs : List Int) (w : World) (hv : Byt w v xs) (hS : Sb n e t) (h : Rs u n e t xs) :
    Calls Tryd.prog 33 #[.agg (sv u n e t v).toArray] w fun x w' => x = .returned (.bool true) ∧ Below w.heap.size w w' := by
  cases u
  · obtain ⟨h1, h2, h3, h4⟩ : n = 0 ∧ e = 0 ∧ t = 0 ∧ xs.length = 0 := h
    exact right_free n e t v xs w hv true (decide_eq_true ((nums_zero hS.1).2 ⟨h1, h2, h3⟩)) (by rw [h4]; rfl)
  · obtain ⟨h1, h2, h3⟩ : 1 ≤ n ∧ n ≤ 65535 ∧ xs.length = 104 := h
    exact right_used n e t v xs w hv true ⟨h1, h2⟩ (by rw [h3]; rfl)
/-- a slot that may not be -/
theorem right_no (u : Bool) (n e t : Int) (v : Value) (xs : List Int) (w : World) (hv : Byt w v xs) (hS : Sb n e t) (h : ¬ Rs u n e t xs) :
    Calls Tryd.prog 33 #[.agg (sv u n e t v).toArray] w fun x w' => x = .returned (.bool false) ∧ Below w.heap.size w w' := by
  cases u
  · have h : ¬ (n = 0 ∧ e = 0 ∧ t = 0 ∧ xs.length = 0) := h
    by_cases h1 : n = 0 ∧ e = 0 ∧ t = 0
    · exact right_free n e t v xs w hv false (decide_eq_true ((nums_zero hS.1).2 h1)) (beq_eq_false_iff_ne.2 fun q => h ⟨h1.1, h1.2.1, h1.2.2, by omega⟩)
    · exact right_nums n e t v xs w hv (decide_eq_false fun q => h1 ((nums_zero hS.1).1 q))
  · have h : ¬ (1 ≤ n ∧ n ≤ 65535 ∧ xs.length = 104) := h
    by_cases h1 : 1 ≤ n ∧ n ≤ 65535
    · exact right_used n e t v xs w hv false h1 (beq_eq_false_iff_ne.2 fun q => h ⟨h1.1, h1.2, by omega⟩)
    · exact right_size n e t v xs w hv h1
end Go.Proofs.YtmbfccclghnaeaaDoor.so

/- Faults as values: how one lies in memory, is read, written, laid in a place of its own. No claim of its own. -/
namespace Go.Proofs.YtmbfccclghnaeaaDoor.fa
open Go.RowKit
set_option maxRecDepth 20000

/-- a fault's cells: its number, does the power go, its mask -/
def fl (f : Int × Bool × Value) : List Value := [.int .i64 f.1, .bool f.2.1, f.2.2]
/-- a fault as a value -/
def fv (f : Int × Bool × Value) : Value := .agg (fl f).toArray
/-- no fault -/
def f0 : Int × Bool × Value := (0, false, .slice none 0 0)
/-- the fault f lies in block b from place p on -/
def FlA (w : World) (b p : Nat) (f : Int × Bool × Value) : Prop := w.cell? ⟨b, p, none⟩ = some (.int .i64 f.1) ∧ w.cell? ⟨b, p + 1, none⟩ = some (.bool f.2.1) ∧ w.cell? ⟨b, p + 2, none⟩ = some f.2.2
theorem FlA.range {w : World} {b p : Nat} {f : Int × Bool × Value} (h : FlA w b p f) : w.rangeAt b p (fl f) := fun j v hv => by
  match j, hv with
  | 0, hv => simp [fl] at hv; subst hv; exact h.1
  | 1, hv => simp [fl] at hv; subst hv; exact h.2.1
  | 2, hv => simp [fl] at hv; subst hv; exact h.2.2
  | j + 3, hv => simp [fl] at hv
theorem FlA.of {w : World} {b p : Nat} {f : Int × Bool × Value} (h : w.rangeAt b p (fl f)) : FlA w b p f := ⟨h 0 _ rfl, h 1 _ rfl, h 2 _ rfl⟩
theorem FlA.lt {w : World} {b p : Nat} {f : Int × Bool × Value} (h : FlA w b p f) : b < w.heap.size := World.block_lt_of_cell? w _ h.1
theorem FlA.heap {w w' : World} {b p : Nat} {f : Int × Bool × Value} (h : FlA w b p f) (e : w'.heap[b]? = w.heap[b]?) : FlA w' b p f :=
  ⟨by rw [World.cell?_of_block (w := w) (w' := w') (a := ⟨b, p, none⟩) e]; exact h.1, by rw [World.cell?_of_block (w := w) (w' := w') (a := ⟨b, p + 1, none⟩) e]; exact h.2.1, by rw [World.cell?_of_block (w := w) (w' := w') (a := ⟨b, p + 2, none⟩) e]; exact h.2.2⟩
theorem FlA.below {w w' : World} {b p B : Nat} {f : Int × Bool × Value} (h : FlA w b p f) (hb : Below B w w') (hB : b < B) : FlA w' b p f := h.heap (hb.block b hB)
end Go.Proofs.YtmbfccclghnaeaaDoor.fa

/- What bytes.Clone and fault's copyOf answer: all in new memory. No claim of its own. -/
namespace Go.Proofs.YtmbfccclghnaeaaDoor.fa
open Go.RowKit
set_option maxRecDepth 20000

/-- v holds the bytes xs, in memory from block B on that may be written -/
def Bow (B : Nat) (w : World) (v : Value) (xs : List Int) : Prop := Byt w v xs ∧ (0 < xs.length → ∃ b off cap, v = .slice (some ⟨b, off, none⟩) xs.length cap ∧ B ≤ b ∧ ∀ j, j < xs.length → w.frozen? ⟨b, off + j, none⟩ = false)
theorem Bow.nil (B : Nat) (w : World) : Bow B w (.slice none 0 0) [] := ⟨Byt.nil w, fun h => by simp at h⟩
theorem bow_own {B : Nat} {w : World} {v : Value} {xs : List Int} (h : Own B w v xs) (ha : AllB xs) : Bow B w v xs := by
  refine ⟨h.byt ha, fun hp => ?_⟩
  obtain ⟨g, cap, rfl, oc⟩ := own_row h hp
  exact ⟨g, 0, cap, rfl, oc.2.1, fun j _ => by rw [Nat.zero_add]; exact oc.free j⟩
theorem Bow.below {B : Nat} {w w' : World} {v : Value} {xs : List Int} (h : Bow B w v xs) (hb : Below w.heap.size w w') : Bow B w' v xs := by
  refine ⟨h.1.below hb, fun hp => ?_⟩
  obtain ⟨b, off, cap, rfl, h1, h2⟩ := h.2 hp
  obtain ⟨ao, cap', e, _, _, _, _, h5⟩ := h.1
  cases e
  obtain ⟨b', off', e', hc⟩ := h5 hp
  cases e'
  exact ⟨b, off, cap, rfl, h1, fun j hj => by rw [hb.frozen (World.block_lt_of_cell? w _ (hc j hj))]; exact h2 j hj⟩
theorem Bow.mono {B B' : Nat} {w : World} {v : Value} {xs : List Int} (h : Bow B w v xs) (hb : B' ≤ B) : Bow B' w v xs := ⟨h.1, fun hp => by
  obtain ⟨b, off, cap, rfl, h1, h2⟩ := h.2 hp
  exact ⟨b, off, cap, rfl, by omega, h2⟩⟩
theorem Bow.other {B : Nat} {w : World} {v u old : Value} {xs : List Int} {p : Addr} (h : Bow B w v xs) (hc : w.cell? p = some old) (ho : ∀ x, old ≠ .int .u8 x) : Bow B (w.setCell p u) v xs := by
  refine ⟨byt_other h.1 hc ho, fun hp => ?_⟩
  obtain ⟨b, off, cap, rfl, h1, h2⟩ := h.2 hp
  exact ⟨b, off, cap, rfl, h1, fun j hj => by rw [World.frozen?_setCell]; exact h2 j hj⟩
theorem byt_one_cell {w : World} {v : Value} {xs : List Int} (h : Byt w v xs) : v.oneCell' = true := by
  obtain ⟨ao, cap, rfl, _⟩ := h
  rfl
theorem byt_no_u8 {w : World} {v : Value} {xs : List Int} (h : Byt w v xs) : ∀ x, v ≠ .int .u8 x := by
  obtain ⟨ao, cap, rfl, _⟩ := h
  intro x e
  cases e

/-- bytes last where a fault is written -/
theorem bow_cells {B : Nat} {w : World} {v : Value} {xs : List Int} {b p : Nat} {f f' : Int × Bool × Value} (hf : FlA w b p f) (hm : ∀ x, f.2.2 ≠ .int .u8 x) (h : Bow B w v xs) : Bow B (w.setCells b p (fl f')) v xs := by
  have h1 := h.other (u := .int .i64 f'.1) hf.1 (by intro x e; cases e)
  have c1 : (w.setCell ⟨b, p, none⟩ (.int .i64 f'.1)).cell? ⟨b, p + 1, none⟩ = some (.bool f.2.1) := by
    rw [World.cell?_setCell_other _ _ _ _ (by intro e; injection e with _ e2; omega)]; exact hf.2.1
  have h2 := h1.other (u := .bool f'.2.1) c1 (by intro x e; cases e)
  have c2 : ((w.setCell ⟨b, p, none⟩ (.int .i64 f'.1)).setCell ⟨b, p + 1, none⟩ (.bool f'.2.1)).cell? ⟨b, p + 2, none⟩ = some f.2.2 := by
    rw [World.cell?_setCell_other _ _ _ _ (by intro e; injection e with _ e2; omega), World.cell?_setCell_other _ _ _ _ (by intro e; injection e with _ e2; omega)]; exact hf.2.2
  exact h2.other (u := f'.2.2) c2 hm

set_option maxHeartbeats 1000000 in
theorem bclone_any (v : Value) (xs : List Int) (w : World) (h : Byt w v xs) (hl : xs.length ≤ 140737488355328) :
    Calls Tryd.prog 31 #[v] w fun e w' => ∃ v', e = .returned v' ∧ Bow w.heap.size w' v' xs ∧ Below w.heap.size w w' := by
  have hall := h.all
  have HA : Hid (AllB xs) := hall
  have HV : Hid (Byt (w.alloc (.cells #[] 5)) v xs) := h.below ((Below.refl _ _).alloc (Nat.le_refl _) _)
  obtain ⟨ao, cap, rfl, h1, h2, h3, h4, h5⟩ := h
  cases ao with
  | none =>
    have hc := h4 rfl
    subst hc
    have e : xs = [] := List.eq_nil_of_length_eq_zero (by omega)
    subst e
    have qn : ∀ w : World, (binOp .eql 23 (.slice none 0 0) (.slice none 0 0)).run Tryd.prog w = .ok (.bool true) w := fun w => Lib.run_eql_slice_nil w _ _ none 0 0 0 0 Tryd.underlying23
    clear h1 h2 h3 h4 h5 hall HV
    go_enter Tryd.func31, Tryd.ntmps31
    go_wp2
    go_ret
    exact ⟨_, rfl, Bow.nil _ _, Below.refl _ _⟩
  | some ad =>
    have HO : Hid (Own w.heap.size (w.alloc (.cells #[] 5)) (.slice (some ⟨w.heap.size, 0, none⟩) 0 0) []) := Own.empty w (Nat.le_refl _)
    have B0 : Below w.heap.size w (w.alloc (.cells #[] 5)) := (Below.refl _ _).alloc (Nat.le_refl _) _
    have z0 := B0.size
    have qn : ∀ w : World, (binOp .eql 23 (.slice (some ad) xs.length cap) (.slice none 0 0)).run Tryd.prog w = .ok (.bool false) w := fun w => Lib.run_eql_slice_nil w _ _ (some ad) xs.length cap 0 0 Tryd.underlying23
    clear h3 h4 h5 hall
    go_enter Tryd.func31, Tryd.ntmps31
    go_wp2_with (refine pushs_law _ rfl (.tmp 5) (.tmp 6) rfl w.heap.size z0 _ _ [] xs rfl rfl HO.out HV.out (by simp only [List.length_nil]; omega) ?_; intro v1 w1 O1 b1; rw [List.nil_append] at O1; have HO1 : Hid (Own w.heap.size w1 v1 xs) := O1; clear O1; have c1 : Below w.heap.size w w1 := B0.trans b1)
    go_ret
    exact ⟨_, rfl, bow_own HO1.out HA.out, c1⟩
end Go.Proofs.YtmbfccclghnaeaaDoor.fa

/- What slot's Copy answers. No claim of its own. -/
namespace Go.Proofs.YtmbfccclghnaeaaDoor.so
open Go.RowKit Go.Proofs.YtmbfccclghnaeaaDoor.fa Go.Proofs.YtmbfccclghnaeaaDoor.he
set_option maxRecDepth 20000

/-- a struct gets a place that holds no byte -/
theorem box_lawN {ops : Array Oper} {rest : List Oper} {a : Act} {Q : Exit → Act → World → Prop} {d : Option Tmp} {x : Operand} {t ty : TypeId} {pos : String} {af : Array Edge} (w : World) (cs : List Value) (hx : a.eval x = .agg cs.toArray) (hc : ∀ v ∈ cs, ∀ y, v ≠ .int .u8 y)
    (hK : ∀ w', Vr w' w.heap.size cs → NoB w' w.heap.size → Below w.heap.size w w' → wpList Tryd.prog ops Q rest (a.put d (.pointer (some ⟨w.heap.size, 0, none⟩))) w') :
    wpList Tryd.prog ops Q (⟨d, Op.box t x, ty, pos, af, none⟩ :: rest) a w := by
  refine wpList_plain rfl fun K hK' => ?_
  unfold Oper.wp
  simp [execOp, hx, Instr.box, newVar, newRow, Value.cells, Result.andThen]
  refine hK' _ _ (hK _ (Vr.new w t cs) (fun j y e => ?_) ((Below.refl _ _).alloc (Nat.le_refl _) _))
  rw [cell_of_row (w.alloc (.cells cs.toArray t)) w.heap.size j _ t (0, 0) (heap_alloc_last w _)] at e
  have e : cs[j]? = some (.int .u8 y) := by simpa using e
  exact hc _ (List.mem_of_getElem? e) y rfl
theorem bow_nob {B : Nat} {w w' : World} {c : Nat} {v : Value} {xs : List Int} (h : Bow B w v xs) (hn : NoB w c) (hk : ∀ k, k ≠ c → w'.heap[k]? = w.heap[k]?) : Bow B w' v xs := by
  refine ⟨byt_nob h.1 hn hk, fun hp => ?_⟩
  obtain ⟨b, off, cap, rfl, h1, h2⟩ := h.2 hp
  obtain ⟨ao, cap', e, _, _, _, _, h5⟩ := h.1
  cases e
  obtain ⟨b', off', e', hc⟩ := h5 hp
  cases e'
  have hb : b ≠ c := fun e => by subst e; exact hn _ _ (hc 0 hp)
  exact ⟨b, off, cap, rfl, h1, fun j hj => by rw [World.frozen?_of_block (w := w) (w' := w') (a := ⟨b, off + j, none⟩) (hk b hb)]; exact h2 j hj⟩

set_option maxHeartbeats 4000000 in
theorem copy_any (u : Bool) (n e t : Int) (v : Value) (xs : List Int) (w : World) (hv : Byt w v xs) (hl : xs.length ≤ 140737488355328) :
    Calls Tryd.prog 32 #[.agg (sv u n e t v).toArray] w fun x w' => ∃ co cc, x = .returned (.agg (sv u n e t (.slice co xs.length cc)).toArray) ∧ Bow w.heap.size w' (.slice co xs.length cc) xs ∧ Below w.heap.size w w' := by
  have SC : Hid (∀ w0, Below w.heap.size w w0 → Calls Tryd.prog 31 #[v] w0 fun x w' => ∃ co cc, x = .returned (.slice co xs.length cc) ∧ Bow w0.heap.size w' (.slice co xs.length cc) xs ∧ Below w0.heap.size w0 w') := fun w0 q => (bclone_any v xs w0 (hv.below q) hl).mono fun _ _ ⟨z, h1, h2, h3⟩ => by
    obtain ⟨co, cc, rfl⟩ := form h2.1
    exact ⟨co, cc, h1, h2, h3⟩
  obtain ⟨ao, cap, rfl⟩ := form hv
  clear hv hl
  have t0 : (0 : Nat) = 0 := rfl
  go_enter Tryd.func32, Tryd.ntmps32
  go_wp2_with (first
    | (have q4 := t4; (with_reducible refine at_store ?_); refine store_lawC _ (sv u n e t (.slice co xs.length cc)) w1.heap.size 0 rfl rfl HR.out.2 rowy_slot.2 (sv_one _ _ _ _ rfl) ?_; intro w5 E9 R9 T9 B9; have K9 : ∀ k, k ≠ w1.heap.size → w5.heap[k]? = w4.heap[k]? := (by rw [E9.out]; exact fun k hk => heap_cells _ _ _ _ k hk); have NB_HB0 : Hid (NoB w5 w.heap.size) := NB_HB0.out.heap (K9 _ (Nat.ne_of_lt LT_HB0_HR.out)); have HB0 : Hid (Vr w5 w.heap.size (sv u n e t (.slice co xs.length cc))) := HB0.out.heap (K9 _ (Nat.ne_of_lt LT_HB0_HR.out)); have HW : Hid (Bow w.heap.size w5 (.slice co xs.length cc) xs) := bow_nob HW.out NB_HR.out K9; have NB_HR : Hid (NoB w5 w1.heap.size) := (by rw [E9.out]; exact NB_HR.out.set HR.out rfl (sv_nob _ _ _ _ _ _ _)); have HR : Hid (Vr w5 w1.heap.size (sv u n e t (.slice co xs.length cc))) := ⟨R9, T9⟩; have BB : Hid (Below w.heap.size w w5) := BB.out.trans (B9.mono LE_HR.out); clear hb0_0 hb0_1 hb0_2 hb0_3 hb0_4; have hb0_0 := HB0.out.cell 0 _ rfl; have hb0_1 := HB0.out.cell 1 _ rfl; have hb0_2 := HB0.out.cell 2 _ rfl; have hb0_3 := HB0.out.cell 3 _ rfl; have hb0_4 := HB0.out.cell 4 _ rfl; clear E9 R9 T9 B9 K9; clear t4; have t5 : (1 : Nat) = 1 := rfl)
    | (have q3 := t3; (with_reducible refine at_store ?_); refine set_lawC _ (sv u n e t (.slice ao xs.length cap)) w.heap.size 4 (.slice co xs.length cc) rfl rfl HB0.out NB_HB0.out (show (4 : Nat) < 5 by decide) rfl rfl (fun y q => by cases q) size_bytes ?_; have NBo := NB_HB0; intro w4 R9 N9 B9 K9; have NB_HR : Hid (NoB w4 w1.heap.size) := NB_HR.out.heap (K9 _ (Nat.ne_of_gt LT_HB0_HR.out)); have HR : Hid (Vr w4 w1.heap.size (sv false 0 0 0 (.slice none 0 0))) := HR.out.heap (K9 _ (Nat.ne_of_gt LT_HB0_HR.out)); have HW : Hid (Bow w.heap.size w4 (.slice co xs.length cc) xs) := bow_nob HW.out NBo.out K9; have NB_HB0 : Hid (NoB w4 w.heap.size) := N9; have HB0 : Hid (Vr w4 w.heap.size (sv u n e t (.slice co xs.length cc))) := R9; have BB : Hid (Below w.heap.size w w4) := BB.out.trans (B9.mono LE_HB0.out); clear hb0_0 hb0_1 hb0_2 hb0_3 hb0_4; have hb0_0 := HB0.out.cell 0 _ rfl; have hb0_1 := HB0.out.cell 1 _ rfl; have hb0_2 := HB0.out.cell 2 _ rfl; have hb0_3 := HB0.out.cell 3 _ rfl; have hb0_4 := HB0.out.cell 4 _ rfl; clear R9 N9 B9 K9 NBo; clear t3; have t4 : (1 : Nat) = 1 := rfl)
    | (have q2 := t2; go_at_call 31; refine (SC.out w2 BB.out).mono ?_; rintro e9 w3 ⟨co, cc, rfl, Y9, B9⟩; have NB_HB0 : Hid (NoB w3 w.heap.size) := NB_HB0.out.heap (B9.block _ (range_lt HB0.out.1 (Nat.succ_pos _))); have HB0 : Hid (Vr w3 w.heap.size (sv u n e t (.slice ao xs.length cap))) := HB0.out.below B9 (range_lt HB0.out.1 (Nat.succ_pos _)); have NB_HR : Hid (NoB w3 w1.heap.size) := NB_HR.out.heap (B9.block _ (range_lt HR.out.1 (Nat.succ_pos _))); have HR : Hid (Vr w3 w1.heap.size (sv false 0 0 0 (.slice none 0 0))) := HR.out.below B9 (range_lt HR.out.1 (Nat.succ_pos _)); have HW : Hid (Bow w.heap.size w3 (.slice co xs.length cc) xs) := Y9.mono BB.out.size; have BB : Hid (Below w.heap.size w w3) := BB.out.trans (B9.mono BB.out.size); clear hb0_0 hb0_1 hb0_2 hb0_3 hb0_4; have hb0_0 := HB0.out.cell 0 _ rfl; have hb0_1 := HB0.out.cell 1 _ rfl; have hb0_2 := HB0.out.cell 2 _ rfl; have hb0_3 := HB0.out.cell 3 _ rfl; have hb0_4 := HB0.out.cell 4 _ rfl; clear B9 Y9; clear t2; have t3 : (1 : Nat) = 1 := rfl)
    | (have q1 := t1; (with_reducible refine at_alloc ?_); refine new_lawN _ (sv false 0 0 0 (.slice none 0 0)) zero_slot (sv_nob _ _ _ _ _ _ _) ?_; intro w2 X9 N9 B9; have LT_HB0_HR : Hid (w.heap.size < w1.heap.size) := range_lt HB0.out.1 (Nat.succ_pos _); have LE_HR : Hid (w.heap.size ≤ w1.heap.size) := BB.out.size; have NB_HB0 : Hid (NoB w2 w.heap.size) := NB_HB0.out.heap (B9.block _ (range_lt HB0.out.1 (Nat.succ_pos _))); have HB0 : Hid (Vr w2 w.heap.size (sv u n e t (.slice ao xs.length cap))) := HB0.out.below B9 (range_lt HB0.out.1 (Nat.succ_pos _)); have HR : Hid (Vr w2 w1.heap.size (sv false 0 0 0 (.slice none 0 0))) := X9; have NB_HR : Hid (NoB w2 w1.heap.size) := N9; have BB : Hid (Below w.heap.size w w2) := BB.out.trans (B9.mono BB.out.size); clear hb0_0 hb0_1 hb0_2 hb0_3 hb0_4; have hb0_0 := HB0.out.cell 0 _ rfl; have hb0_1 := HB0.out.cell 1 _ rfl; have hb0_2 := HB0.out.cell 2 _ rfl; have hb0_3 := HB0.out.cell 3 _ rfl; have hb0_4 := HB0.out.cell 4 _ rfl; clear X9 N9 B9; clear t1; have t2 : (1 : Nat) = 1 := rfl)
    | (have q0 := t0; refine box_lawN _ (sv u n e t (.slice ao xs.length cap)) rfl (sv_nob _ _ _ _ _ _ _) ?_; intro w1 X9 N9 B9; have LE_HB0 : Hid (w.heap.size ≤ w.heap.size) := Nat.le_refl _; have HB0 : Hid (Vr w1 w.heap.size (sv u n e t (.slice ao xs.length cap))) := X9; have NB_HB0 : Hid (NoB w1 w.heap.size) := N9; have BB : Hid (Below w.heap.size w w1) := B9; have hb0_0 := HB0.out.cell 0 _ rfl; have hb0_1 := HB0.out.cell 1 _ rfl; have hb0_2 := HB0.out.cell 2 _ rfl; have hb0_3 := HB0.out.cell 3 _ rfl; have hb0_4 := HB0.out.cell 4 _ rfl; clear X9 N9 B9; clear t0; have t1 : (1 : Nat) = 1 := rfl))
  exact bodyPost_ret (v := .agg (sv u n e t (.slice co xs.length cc)).toArray) (results_c rfl _ _ w1.heap.size _ rowy_slot rfl HR.out.1) rfl ⟨_, _, rfl, HW.out, BB.out⟩
end Go.Proofs.YtmbfccclghnaeaaDoor.so

