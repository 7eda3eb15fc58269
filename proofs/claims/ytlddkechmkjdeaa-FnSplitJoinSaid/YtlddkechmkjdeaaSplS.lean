/- impl.SplitString: the loop over its iterator collects all parts. -/
import Derived.Test.YtlddkechmkjdeaaSplI
namespace Go.Proofs.Ytlddkechmkjdeaa.spls
open kit hs split spli
open Go.RowKit

attribute [local go_sem] Oper.semAt_some

/-- what SplitString of both programs comes to -/
def spOk (s sep : ByteArray) : Bool := decide (s.size ≤ 4000 ∧ sep.size = 1)
def spL (s sep : ByteArray) : List ByteArray := if spOk s sep then parts s (sep.data.toList.headD 0).toNat else []
def spPost (s sep : ByteArray) (w : World) (e : Ending) (w' : World) : Prop :=
  ∃ v, e = .returned (.tuple #[v, .bool (spOk s sep)]) ∧ OwnS w' w.heap.size v (spL s sep) ∧ v ≠ .slice none 0 0 ∧ Below w.heap.size w w'

set_option maxHeartbeats 2000000 in
theorem partsOf_in (F : Fence) (n : Nat) (h27 : F.fn 27) (hro : F.round = none) (s : ByteArray) (c : Int) (w : World) :
    CallsIn F n Try.prog 27 #[.string s, .int .u8 c] w fun e w' => e = .returned (.func (.func 35) #[] #[.pointer (some ⟨w.heap.size, 0, none⟩), .pointer (some ⟨w.heap.size + 1, 0, none⟩)]) ∧ w' = (w.alloc (.cells #[.string s] 9)).alloc (.cells #[.int .u8 c] 5) := by
  refine callsIn_of_wp Try.func27 rfl h27 ?_ hro
  simp only [Try.ntmps27, List.size_toArray, List.length_cons, List.length_nil, Nat.reduceAdd, Nat.reduceSub, Array.replicate_succ, Array.replicate_zero, List.push_toArray, List.append_toArray, List.nil_append, List.cons_append]
  gi_wp2
  go_ret
  exact ⟨rfl, rfl⟩

theorem stops (F : Fence) (n : Nat) (h35 : F.fn 35) (hro : F.round = none) (hn : 1 ≤ n) (B1 B2 : Nat) (s : ByteArray) (c : Int) (hs : s.size ≤ 1048576) (w : World) (h1 : B1 < w.heap.size) (h2 : B2 < w.heap.size)
    (hc1 : w.cell? ⟨B1, 0, none⟩ = some (.string s)) (hc2 : w.cell? ⟨B2, 0, none⟩ = some (.int .u8 c)) :
    SeqStopsK F n Try.prog 35 #[.pointer (some ⟨B1, 0, none⟩), .pointer (some ⟨B2, 0, none⟩)] (fun x : ByteArray => #[Value.string x]) (Two B1 B2) (fun ys => ys = parts s c) (fun _ => True) (parts s c).length w := fun l J Jx W hW hJ _ hY h0 =>
  iter_in F n h35 hro hn l B1 B2 s c hs J Jx W hJ hY ((hW.cell (p := ⟨B1, 0, none⟩) h1).trans hc1) ((hW.cell (p := ⟨B2, 0, none⟩) h2).trans hc2) h0

/-- v owns none of the two boxes that the iterator reads -/
def Far (N : Nat) (v : Value) : Prop := v ≠ .slice none 0 0 ∧ v.ownBlock ≠ some (N + 1 + 1) ∧ v.ownBlock ≠ some (N + 1 + 1 + 1)
theorem far_next {N : Nat} {v v' : Value} {W : World} {o : Obj} (h : Far N v) (hW : N + 4 ≤ W.heap.size) (hat : v'.ownBlock = v.ownBlock ∨ v'.ownBlock = some (W.alloc o).heap.size) (hn : v' ≠ .slice none 0 0) : Far N v' := by
  refine ⟨hn, ?_, ?_⟩
  · rcases hat with e | e
    · rw [e]; exact h.2.1
    · rw [e]; simp; omega
  · rcases hat with e | e
    · rw [e]; exact h.2.2
    · rw [e]; simp; omega
theorem two_next {N : Nat} {v : Value} {W w1 : World} {o : Obj} (h : Far N v) (hW : N + 4 ≤ W.heap.size) (hg : (W.alloc o).grownBy w1 v.ownBlock) (u : Value) : Two (N + 1 + 1) (N + 1 + 1 + 1) W (w1.setCell ⟨N + 1, 0, none⟩ u) := by
  have hs := hg.size
  simp at hs
  refine ⟨?_, ?_, ?_⟩
  · rw [Below.heap_setCell _ _ _ _ (by simp), hg.block (N + 1 + 1) (by simp; omega) (fun e => h.2.1 e.symm), Below.heap_alloc _ _ _ (by omega)]
  · rw [Below.heap_setCell _ _ _ _ (by simp; omega), hg.block (N + 1 + 1 + 1) (by simp; omega) (fun e => h.2.2 e.symm), Below.heap_alloc _ _ _ (by omega)]
  · have : (w1.setCell ⟨N + 1, 0, none⟩ u).heap.size = w1.heap.size := by simp [World.setCell]
    omega
theorem two_put {B1 B2 M : Nat} (h1 : B1 < M) (h2 : B2 < M) : ∀ (W : World) (l : Nat) (o o' : Obj), M ≤ l → W.heap[l]? = some o → o.isCells = false → o.isWalk = false → Two B1 B2 W (W.putObj l o') := fun W l o o' hl _ _ _ =>
  ⟨World.putObj_heap_other (by omega), World.putObj_heap_other (by omega), by simp⟩
/-- append to a row of the call's own, inside a fence: and where the new row lies -/
theorem append_at {F : Fence} {n : Nat} {P : Program} (w : World) {ops : Array Oper} {rest : List Oper} {o : Oper} {a : Act} {Q : Exit → Act → World → Prop}
    (hg : o.guard = none) (s x : Operand) (t : TypeId) (hop : o.op = Op.call { callee := Callee.builtin Builtin.append, args := #[s, x], argTypes := #[t, t] })
    (base : Nat) (e : TypeId) (i : TypeInfo) (z : Value) (size bytes : Nat) (h1 : P.underlying t = some (.slice e)) (h2 : P.info? e = some i) (h3 : i.zero = some z) (h4 : i.size = size) (h5 : i.bytes = bytes) (h6 : z.cells.size = size) (h7 : 0 < size)
    (v : Value) (k : Nat) (xs : List Value) (hs : a.eval s = v) (hown : w.ownsRow base e size v k xs) (ad : Addr) (m c : Nat) (news : List Value) (hx : a.eval x = .slice (some ad) m c) (hn : news.length = m * size)
    (hc : ∀ j u, news[j]? = some u → w.cell? (ad.add j) = some u) (h1c : ∀ u ∈ news, u.oneCell' = true) (b1 : k + m ≤ maxLen) (b2 : (k + m) * bytes ≤ 140737488355328) (b3 : base ≤ w.heap.size)
    (hK : ∀ v' w', w'.ownsRow base e size v' (k + m) (xs ++ news) → w.grownBy w' v.ownBlock → (v' = .slice none 0 0 ↔ v = .slice none 0 0 ∧ m = 0) → (v'.ownBlock = v.ownBlock ∨ v'.ownBlock = some w.heap.size) → wpListIn F n P ops Q rest (a.put o.dst v') w') :
    wpListIn F n P ops Q (o :: rest) a w := by
  refine wpListIn_plain hg fun K hK' => ?_
  obtain ⟨v', w', hrun, r1, r2, r3, r4⟩ := run_append_own_at (P := P) w base t o.type e i z size bytes h1 h2 h3 h4 h5 h6 h7 v k xs hown ad m c news hn hc h1c b1 b2 b3
  unfold Oper.wpIn
  refine ⟨?_, ?_⟩
  · simp [Oper.about, hop, resolve, Target.leads, Sem.run_pure]
  · rw [Oper.semAt_plain F _ _ (by rw [hop]; intro c hc'; cases hc')]
    simp [execOp, hop, resolve, invoke, builtin, hs, hx, hrun, Result.andThen]
    exact hK' _ _ (hK v' w' r1 r2 r3 r4)

set_option maxRecDepth 100000 in
set_option maxHeartbeats 4000000 in
theorem split_in (F : Fence) (n : Nat) (h10 : F.fn 10) (h27 : F.fn 27) (h35 : F.fn 35) (hro : F.round = none) (hn : 3 ≤ n) (s : ByteArray) (c : UInt8) (hs : s.size ≤ 4000) (w : World) :
    CallsIn F n Try.prog 10 #[.string s, .string ⟨#[c]⟩] w fun e W' => ∃ v, e = .returned (.tuple #[v, .bool true]) ∧ OwnS W' w.heap.size v (parts s c.toNat) ∧ v ≠ .slice none 0 0 ∧ Below w.heap.size w W' := by
  have h1 : 1 ≤ n := by omega
  obtain ⟨i0, hi, hz0, hz1, hz2⟩ := info_parts str_info
  have hcb := c.toNat_lt
  refine callsIn_of_wp_marks Try.func10 rfl h10 ?_ hro
  simp only [Try.ntmps10, List.size_toArray, List.length_cons, List.length_nil, Nat.reduceAdd, Nat.reduceSub, Array.replicate_succ, Array.replicate_zero, List.push_toArray, List.append_toArray, List.nil_append, List.cons_append]
  have hidx : ∀ h, (ByteArray.mk #[c])[0]'h = c := fun _ => rfl
  gi_wp2_with (gi_at_call 27; refine (partsOf_in F (n - 1) h27 hro s c.toNat _).mono ?_; rintro e w' ⟨rfl, rfl⟩)
  clear hidx
  have b0 := Boxed.new (w.alloc (.cells #[] 9)) 26 (.slice (some ⟨w.heap.size, 0, none⟩) 0 0)
  rw [World.size_alloc] at b0
  have b1 := Boxed.new ((w.alloc (.cells #[] 9)).alloc (.cells #[.slice (some ⟨w.heap.size, 0, none⟩) 0 0] 26)) 9 (.string s)
  rw [World.size_alloc, World.size_alloc] at b1
  have b2 := Boxed.new (((w.alloc (.cells #[] 9)).alloc (.cells #[.slice (some ⟨w.heap.size, 0, none⟩) 0 0] 26)).alloc (.cells #[.string s] 9)) 5 (.int .u8 c.toNat)
  rw [World.size_alloc, World.size_alloc, World.size_alloc] at b2
  have hB0 : Below w.heap.size w ((((w.alloc (.cells #[] 9)).alloc (.cells #[.slice (some ⟨w.heap.size, 0, none⟩) 0 0] 26)).alloc (.cells #[.string s] 9)).alloc (.cells #[.int .u8 c.toNat] 5)) :=
    ((((Below.refl _ w).alloc (Nat.le_refl _) _).alloc (by simp) _).alloc (by simp; omega) _).alloc (by simp; omega) _
  have hsz : s.size ≤ 1048576 := by omega
  have hplen : (parts s c.toNat).length ≤ 4001 := by
    have := done_le s c.toNat s.size
    unfold parts
    rw [List.length_append, List.length_singleton]
    omega
  refine wpIn_rangeFunc_ownG hro h1 (gf := 35) (lb := #[.pointer (some ⟨w.heap.size + 1 + 1, 0, none⟩), .pointer (some ⟨w.heap.size + 1 + 1 + 1, 0, none⟩)]) rfl h35 (enters_of Try.func35 (by kernel_rfl) rfl)
    (stops F (n - 1) h35 hro (by omega) (w.heap.size + 1 + 1) (w.heap.size + 1 + 1 + 1) s c.toNat hsz _ (by simp) (by simp) (b1.alloc _).cell b2.cell) Two.trans (two_put (by simp) (by simp)) (Below.refl _ _) (fun _ => rfl)
    (fun pre W => (∃ v, Boxed W (w.heap.size + 1) 26 v ∧ W.ownsRow w.heap.size 9 1 v pre.length (pre.map Value.string) ∧ Far w.heap.size v) ∧ Below w.heap.size w W ∧ w.heap.size + 4 ≤ W.heap.size)
    (fun _ _ _ => False)
    (OwnFrom.and (Own.from (holdsRow_own w.heap.size (w.heap.size + 1) 26 9 1 (fun pre : List ByteArray => pre.length) (fun pre => pre.map Value.string) (fun _ v => Far w.heap.size v)) _) (OwnFrom.and (ownFrom_below (Nat.le_refl _) (by simp; omega)) (fun _ _ _ _ hs hg _ => Nat.le_trans hs hg.size)))
    (fun _ _ _ _ _ hs _ _ => hs)
    ⟨⟨_, (b0.alloc _).alloc _, (((World.ownsRow_made (base := w.heap.size) (e := 9) (size := 1) w #[] 0 (Nat.le_refl _) (by unfold maxLen; omega) (by simp)).alloc _).alloc _).alloc _, ⟨by simp, by simp [Value.ownBlock]; omega, by simp [Value.ownBlock]; omega⟩⟩, hB0, by simp⟩
    (fun x => { tmps := #[.string s, .string ⟨#[c]⟩, undef, undef, .slice none 0 0, .bool false, .pointer (some ⟨w.heap.size + 1, 0, none⟩), .string x, .string s, .int .i64 s.size, .bool (decide (4000 < (s.size : Int))), .bool (decide (4000 < (s.size : Int))), .string ⟨#[c]⟩, .int .i64 1, .bool false, .bool (decide (4000 < (s.size : Int))), undef, .slice (some ⟨w.heap.size, 0, none⟩) 0 0, .string s, .string ⟨#[c]⟩, .int .u8 c.toNat, .func (.func 35) #[] #[.pointer (some ⟨w.heap.size + 1 + 1, 0, none⟩), .pointer (some ⟨w.heap.size + 1 + 1 + 1, 0, none⟩)], .string x, undef, undef, undef, undef, undef], defers := [] }) ?assign ?body ?done ?stop
  case assign =>
    intro l x W K hK
    gi_wp2
    exact hK
  case body =>
    rintro l pre x W ⟨⟨v, hv, hrow, hnn⟩, hB, hW4⟩ hlt
    have hc := hv.cell
    have hbs := hB.size
    have HN := Lib.hid hnn
    clear hnn
    gi_wp2_with (gi_at_builtin; refine append_at _ rfl _ _ 26 rfl w.heap.size 9 i0 (.string ⟨#[]⟩) 1 16 Try.underlying26 hi hz0 hz1 hz2 rfl (by decide) _ _ _ rfl (hrow.alloc _) ⟨W.heap.size, 0, none⟩ 1 1 [.string x] rfl rfl (cell_one_new _ _ _) (by simp [Value.oneCell']) (by unfold maxLen; omega) (by omega) (by simp; omega) ?_; intro v' w1 hown' hgrow hnil hat; have hfar := far_next HN.out hW4 hat (fun e => absurd (hnil.1 e).2 (by decide)); have HFar := Lib.hid hfar; have HTwo := Lib.hid (two_next HN.out hW4 hgrow); clear hat hnil hfar; obtain ⟨g', cap', rfl⟩ := ownsRow_succ hown'; obtain ⟨hv1, hv2, hr2, hk2, hb2⟩ := hv.appended (by decide) hrow hbs (Nat.le_succ _) hown' hgrow; have hc1 := hv1.cell; have hf1 := hv1.frozen)
    exact ⟨hk2.from _, HTwo.out _, ⟨_, hv2, by rw [List.length_append, List.map_append]; exact hr2, HFar.out⟩, hB.trans hb2, Nat.le_trans hW4 hb2.size⟩
  case done =>
    rintro D ys W hD rfl ⟨⟨v, hv, hrow, hnn⟩, hB, -⟩ hK
    have hc := hv.cell
    gi_wp2
    refine ⟨by simp, .inl ⟨_, _, rfl, run_takeDeferred hK, ?_⟩⟩
    exact ⟨_, results_tmp2 rfl _ _ _, v, rfl, ownsRow_putObj hrow _ hK rfl, hnn.1, hB.trans (belowK_b (w := w) (Nat.le_refl _) W D _ _ (by simp at hD; omega) hK rfl rfl)⟩
  case stop =>
    rintro D c pre W _ _ h _
    exact h.elim

theorem one_of {sep : ByteArray} (h : sep.size = 1) : ∃ c, sep = ⟨#[c]⟩ := by
  obtain ⟨⟨l⟩⟩ := sep
  match l, h with
  | [c], _ => exact ⟨c, rfl⟩

set_option maxRecDepth 100000 in
set_option maxHeartbeats 4000000 in
theorem fail_in (F : Fence) (n : Nat) (h10 : F.fn 10) (hro : F.round = none) (s sep : ByteArray) (hz2 : s.size ≤ maxLen) (h : ¬ (s.size ≤ 4000 ∧ sep.size = 1)) (w : World) :
    CallsIn F n Try.prog 10 #[.string s, .string sep] w fun e W' => e = .returned (.tuple #[.slice (some ⟨w.heap.size, 0, none⟩) 0 0, .bool false]) ∧ W' = w.alloc (.cells #[] 9) := by
  unfold maxLen at hz2
  by_cases h1 : s.size ≤ 4000
  · have h2 : ((sep.size : Int) != 1) = true := by
      have : ¬ sep.size = 1 := fun e => h ⟨h1, e⟩
      simp; omega
    clear h
    refine callsIn_of_wp_marks Try.func10 rfl h10 ?_ hro
    simp only [Try.ntmps10, List.size_toArray, List.length_cons, List.length_nil, Nat.reduceAdd, Nat.reduceSub, Array.replicate_succ, Array.replicate_zero, List.push_toArray, List.append_toArray, List.nil_append, List.cons_append]
    gi_wp2
    exact ⟨_, results_tmp2 rfl _ _ _, rfl, rfl⟩
  · have h1' : 4000 < s.size := by omega
    clear h
    refine callsIn_of_wp_marks Try.func10 rfl h10 ?_ hro
    simp only [Try.ntmps10, List.size_toArray, List.length_cons, List.length_nil, Nat.reduceAdd, Nat.reduceSub, Array.replicate_succ, Array.replicate_zero, List.push_toArray, List.append_toArray, List.nil_append, List.cons_append]
    gi_wp2
    exact ⟨_, results_tmp2 rfl _ _ _, rfl, rfl⟩

theorem implSplit_any (s sep : ByteArray) (hz2 : s.size ≤ maxLen) (w : World) :
    Calls Try.prog 10 #[.string s, .string sep] w (spPost s sep w) := by
  refine callsIn_wide (n := 3) |>.1 ?_
  by_cases h : s.size ≤ 4000 ∧ sep.size = 1
  · obtain ⟨h1, h2⟩ := h
    obtain ⟨c, rfl⟩ := one_of h2
    have ho : spOk s ⟨#[c]⟩ = true := decide_eq_true ⟨h1, h2⟩
    refine (split_in Fence.wide 3 trivial trivial trivial rfl (Nat.le_refl _) s c h1 w).mono fun e w' ⟨v, he, hown, hn, hb⟩ => ?_
    refine ⟨v, by rw [ho]; exact he, ?_, hn, hb⟩
    unfold spL
    rw [if_pos ho]
    exact hown
  · have ho : spOk s sep = false := decide_eq_false h
    refine (fail_in Fence.wide 3 trivial rfl s sep hz2 h w).mono fun e w' ⟨he, hw⟩ => ?_
    subst hw
    refine ⟨_, by rw [ho]; exact he, ?_, by simp, (Below.refl _ _).alloc (Nat.le_refl _) _⟩
    unfold spL
    rw [ho]
    exact World.ownsRow_made w #[] 0 (Nat.le_refl _) (by unfold maxLen; omega) (by simp)

set_option maxHeartbeats 800000 in
theorem specSplit_any (s sep : ByteArray) (hz : sep.size ≤ 1048576) (hz2 : s.size ≤ 1048576) (w : World) :
    Calls Try.prog 17 #[.string s, .string sep] w (spPost s sep w) := by
  by_cases h2 : sep.size = 1
  · obtain ⟨c, rfl⟩ := one_of h2
    by_cases h1 : s.size ≤ 4000
    · have ho : spOk s ⟨#[c]⟩ = true := decide_eq_true ⟨h1, h2⟩
      have HO := Lib.hid ho
      have hl : spL s ⟨#[c]⟩ = parts s c.toNat := by unfold spL; rw [if_pos ho]; rfl
      have HL := Lib.hid hl
      have hidx : ∀ h, (ByteArray.mk #[c])[0]'h = c := fun _ => rfl
      have hcb := c.toNat_lt
      clear ho hl h2
      go_enter Try.func17, Try.ntmps17
      go_wp2_with fail
      refine (split_any s c.toNat _ hz2).mono ?_
      rintro e w' ⟨v, rfl, hown, hn, hb⟩
      have HOwn := Lib.hid hown
      clear hown hidx
      go_wp2_with fail
      go_ret2
      exact ⟨v, by rw [HO.out]; rfl, by rw [HL.out]; exact HOwn.out, hn, hb⟩
    · have ho : spOk s ⟨#[c]⟩ = false := decide_eq_false (fun h => h1 h.1)
      have HO := Lib.hid ho
      have h1' : 4000 < s.size := by omega
      clear ho h2
      go_enter Try.func17, Try.ntmps17
      go_wp2_with fail
      go_ret2
      refine ⟨_, by rw [HO.out]; rfl, ?_, by simp, (Below.refl _ _).alloc (Nat.le_refl _) _⟩
      unfold spL
      rw [HO.out]
      exact World.ownsRow_made w #[] 0 (Nat.le_refl _) (by unfold maxLen; omega) (by simp)
  · have ho : spOk s sep = false := decide_eq_false (fun h => h2 h.2)
    have HO := Lib.hid ho
    have h2' : ((sep.size : Int) != 1) = true := by simp; omega
    clear ho
    go_enter Try.func17, Try.ntmps17
    go_wp2_with fail
    go_ret2
    refine ⟨_, by rw [HO.out]; rfl, ?_, by simp, (Below.refl _ _).alloc (Nat.le_refl _) _⟩
    unfold spL
    rw [HO.out]
    exact World.ownsRow_made w #[] 0 (Nat.le_refl _) (by unfold maxLen; omega) (by simp)
end Go.Proofs.Ytlddkechmkjdeaa.spls
