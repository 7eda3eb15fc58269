/- LinkParts of impl: a map of numbers, joinParts. -/
import Derived.Test.YtfjgapkjpmkplaaLps
import Derived.RangeFuncWrites
import Derived.RangeFuncNested
import Derived.RangeFuncCalls
namespace Go.Proofs.Ytfjgapkjpmkplaa.lpi
open Go.Maps (Keyed)
open kit bg opn strs only hb sg sig isig un gd inn ht hi cf pt ptm lf im ib rs rt pts psp mapb idi idm lpx abv has idl lps
open Go.RowKit
set_option linter.unusedVariables false
set_option linter.unusedSimpArgs false
open Classical in
/-- a map with one key put -/
noncomputable def putM (M : Lit → Option Int) (kl : Lit) (y : Int) : Lit → Option Int := fun l => if l = kl then some y else M l
theorem putM_same {M : Lit → Option Int} {kl : Lit} {y : Int} : putM M kl y kl = some y := by unfold putM; exact if_pos rfl
theorem putM_other {M : Lit → Option Int} {kl l : Lit} {y : Int} (h : l ≠ kl) : putM M kl y l = M l := by unfold putM; exact if_neg h
attribute [local go_sem] Oper.semAt_some

/-! ### a map of numbers -/
def NumAt (P : Program) (k e : TypeId) (w : World) (b n : Nat) (M : Lit → Option Int) : Prop :=
  ∃ D : DataW Unit, w.ownsMap P k (plainElem P e) b n D ∧ Maps.IsMap D ∧ ∀ kl, WideAt.IsKeyLit kl → Maps.has D kl = (M kl).isSome ∧ ∀ z, M kl = some z → D.atKey kl (.lit (.int .i64 0)) = .lit (.int .i64 z)
section
variable {P : Program} {k e : TypeId} {w : World} {b n : Nat} {M : Lit → Option Int}
theorem NumAt.congr {M' : Lit → Option Int} (h : NumAt P k e w b n M) (hM : ∀ l, M l = M' l) : NumAt P k e w b n M' := by
  have : M = M' := funext hM
  rw [← this]; exact h
theorem NumAt.made (w : World) (P : Program) (k e : TypeId) : NumAt P k e (w.alloc (.map #[] 0)) w.heap.size 0 (fun _ => none) :=
  ⟨_, World.ownsMap_made w P k _, ⟨_, rfl⟩, fun kl hk => ⟨by simp [Maps.has], fun z hz => by cases hz⟩⟩
theorem NumAt.kept {w' : World} {row : Option Nat} (h : NumAt P k e w b n M) (hg : w.grownBy w' row) (hne : some b ≠ row) : NumAt P k e w' b n M := by
  obtain ⟨D, hown, r⟩ := h
  exact ⟨D, hown.kept hg hne, r⟩
theorem NumAt.more {n' : Nat} (h : NumAt P k e w b n M) (hn : n ≤ n') : NumAt P k e w b n' M := by
  obtain ⟨D, ⟨es, clock, h1, h2, h3, h4⟩, q⟩ := h
  exact ⟨D, ⟨es, clock, h1, h2, by omega, h4⟩, q⟩
theorem NumAt.lt (h : NumAt P k e w b n M) : b < w.heap.size := by
  obtain ⟨D, hown, _⟩ := h
  exact hown.lt
theorem NumAt.block {w' : World} (h : NumAt P k e w b n M) (e2 : w'.heap[b]? = w.heap[b]?) : NumAt P k e w' b n M := by
  obtain ⟨D, ⟨es, clock, hb, r⟩, q⟩ := h
  exact ⟨D, ⟨es, clock, e2.trans hb, r⟩, q⟩
theorem NumAt.below {w' : World} {B : Nat} (h : NumAt P k e w b n M) (hb : Below B w w') (hB : b < B) : NumAt P k e w' b n M := h.block (hb.block b hB)
theorem wpListIn_store_num {F : Fence} {nF : Nat} (w : World) {ops : Array Oper} {rest : List Oper} {o : Oper} {a : Act} {Q : Exit → Act → World → Prop}
    (hg : o.guard = none) (m x v : Operand) (t : TypeId) (hop : o.op = Op.mapUpdate t m x v)
    (k e : TypeId) (K : Keyed P k) (ht : P.underlying t = some (.map k e)) (he : P.underlying e = some (.int .i64)) (b n : Nat) (M : Lit → Option Int)
    (hm : a.eval m = .map (some b)) (h : NumAt P k e w b n M) (hn : n < maxLen) (key : Value) (y : Int) (kl : Lit) (hx : a.eval x = key) (hv : a.eval v = .int .i64 y) (hy : (Lit.int .i64 y).wf = true) (hkey : keyOf P k key = some kl) (hkl : WideAt.IsKeyLit kl)
    (hK : ∀ w', NumAt P k e w' b (n + 1) (putM M kl y) → w.grownBy w' (some b) → wpListIn F nF P ops Q rest (a.put o.dst undef) w') :
    wpListIn F nF P ops Q (o :: rest) a w := by
  obtain ⟨D, hown, hmap, hS⟩ := h
  refine wpListIn_mapUpdate_own w hg m x v t hop k e K ht _ b n D hm hown hn key (.int .i64 y) kl hx hv hkey (.lit (.int .i64 y)) [] (plainElem_int he hy) ?_
  intro w1 hown1 hg1
  refine hK w1 ⟨_, hown1, hmap.put _ _, fun l hl => ?_⟩ hg1
  by_cases e2 : l = kl
  · subst e2
    rw [Maps.has_put_same hmap hl, putM_same]
    exact ⟨rfl, fun z hz => by injection hz with hz; subst hz; exact Maps.atKey_put_same hmap hl _ _⟩
  · rw [Maps.has_put_other e2, putM_other e2, Maps.atKey_put_other e2]
    exact hS l hl
theorem wpListIn_look_num {F : Fence} {nF : Nat} (w : World) {ops : Array Oper} {rest : List Oper} {o : Oper} {a : Act} {Q : Exit → Act → World → Prop}
    (hg : o.guard = none) (m x : Operand) (t : TypeId) (hop : o.op = Op.lookup t m x true)
    (k e : TypeId) (K : Keyed P k) (ht : P.underlying t = some (.map k e)) (he : P.underlying e = some (.int .i64)) (hz : (zeroValue e).run P w = .ok (.int .i64 0) w) (b n : Nat) (M : Lit → Option Int)
    (hm : a.eval m = .map (some b)) (h : NumAt P k e w b n M) (key : Value) (kl : Lit) (hx : a.eval x = key) (hkey : keyOf P k key = some kl) (hkl : WideAt.IsKeyLit kl)
    (hK : ∀ c : Int, (∀ z, M kl = some z → c = z) → wpListIn F nF P ops Q rest (a.put o.dst (.tuple #[.int .i64 c, .bool (M kl).isSome])) w) :
    wpListIn F nF P ops Q (o :: rest) a w := by
  obtain ⟨D, hown, hmap, hS⟩ := h
  refine wpListIn_lookup_own_ok_int w hg m x t hop k e .i64 K ht he hz b n D hm hown key kl hx hkey (fun c hc _ => ?_)
  rw [(hS kl hkl).1]
  refine hK c (fun z hz2 => ?_)
  have := (hS kl hkl).2 z hz2
  rw [this] at hc
  injection hc with hc
  injection hc with _ hc
  exact hc.symm
theorem wpListIn_look_none {F : Fence} {nF : Nat} (w : World) {ops : Array Oper} {rest : List Oper} {o : Oper} {a : Act} {Q : Exit → Act → World → Prop}
    (hg : o.guard = none) (m x : Operand) (t : TypeId) (hop : o.op = Op.lookup t m x true)
    (k e : TypeId) (K : Keyed P k) (ht : P.underlying t = some (.map k e)) (he : P.underlying e = some (.int .i64)) (hz : (zeroValue e).run P w = .ok (.int .i64 0) w) (b n : Nat) (M : Lit → Option Int)
    (hm : a.eval m = .map (some b)) (h : NumAt P k e w b n M) (key : Value) (kl : Lit) (hx : a.eval x = key) (hkey : keyOf P k key = some kl) (hkl : WideAt.IsKeyLit kl) (hM : M kl = none)
    (hK : ∀ c : Int, wpListIn F nF P ops Q rest (a.put o.dst (.tuple #[.int .i64 c, .bool false])) w) :
    wpListIn F nF P ops Q (o :: rest) a w :=
  wpListIn_look_num w hg m x t hop k e K ht he hz b n M hm h key kl hx hkey hkl (fun c _ => by rw [hM]; exact hK c)
theorem wpListIn_look_some {F : Fence} {nF : Nat} (w : World) {ops : Array Oper} {rest : List Oper} {o : Oper} {a : Act} {Q : Exit → Act → World → Prop}
    (hg : o.guard = none) (m x : Operand) (t : TypeId) (hop : o.op = Op.lookup t m x true)
    (k e : TypeId) (K : Keyed P k) (ht : P.underlying t = some (.map k e)) (he : P.underlying e = some (.int .i64)) (hz : (zeroValue e).run P w = .ok (.int .i64 0) w) (b n : Nat) (M : Lit → Option Int)
    (hm : a.eval m = .map (some b)) (h : NumAt P k e w b n M) (key : Value) (kl : Lit) (hx : a.eval x = key) (hkey : keyOf P k key = some kl) (hkl : WideAt.IsKeyLit kl) (z : Int) (hM : M kl = some z)
    (hK : wpListIn F nF P ops Q rest (a.put o.dst (.tuple #[.int .i64 z, .bool true])) w) :
    wpListIn F nF P ops Q (o :: rest) a w :=
  wpListIn_look_num w hg m x t hop k e K ht he hz b n M hm h key kl hx hkey hkl (fun c hc => by rw [hc z hM, hM]; exact hK)
end
theorem zeroI (w : World) : (zeroValue 3).run Try.prog w = .ok (.int .i64 0) w := by kernel_rfl

/-! ### joinParts -/
theorem numRow_congr {w : World} {g c n : Nat} {o s : Nat → Nat} (h : NumRow w g c n o) (hs : ∀ x, x < n → o x = s x) : NumRow w g c n s := by
  obtain ⟨f, hr, hf⟩ := h
  exact ⟨f, hr, fun k hk => by rw [hf k hk, hs k hk]⟩
def mixO (o : Nat → Nat) (x y k : Nat) : Nat → Nat := fun z => if z < k then joinO o x y z else o z
theorem mixO_zero (o : Nat → Nat) (x y : Nat) : mixO o x y 0 = o := by
  funext z
  exact if_neg (Nat.not_lt_zero _)
theorem mixO_keep {o : Nat → Nat} {x y k : Nat} (h : ¬ o k = max (o x) (o y)) (z : Nat) : mixO o x y k z = mixO o x y (k + 1) z := by
  unfold mixO
  by_cases e : z = k
  · subst e
    rw [if_neg (by omega), if_pos (by omega), joinO, if_neg h]
  · by_cases e2 : z < k
    · rw [if_pos e2, if_pos (by omega)]
    · rw [if_neg e2, if_neg (by omega)]
theorem mixO_set {o : Nat → Nat} {x y k : Nat} (h : o k = max (o x) (o y)) (z : Nat) : setO (mixO o x y k) k (min (o x) (o y)) z = mixO o x y (k + 1) z := by
  unfold setO mixO
  by_cases e : z = k
  · subst e
    rw [if_pos rfl, if_pos (by omega), joinO, if_pos h]
  · rw [if_neg e]
    by_cases e2 : z < k
    · rw [if_pos e2, if_pos (by omega)]
    · rw [if_neg e2, if_neg (by omega)]
theorem mixO_at (o : Nat → Nat) (x y k : Nat) : mixO o x y k k = o k := if_neg (Nat.lt_irrefl _)
theorem mixO_done {o : Nat → Nat} {x y n z : Nat} (h : z < n) : mixO o x y n z = joinO o x y z := if_pos h
theorem grownBy_cell (W : World) (b i : Nat) (v : Value) : W.grownBy (W.setCell ⟨b, i, none⟩ v) (some b) :=
  ⟨rfl, rfl, rfl, by simp [World.setCell], fun k _ hk => Below.heap_setCell _ _ _ _ (by show k ≠ b; intro e; subst e; exact hk rfl)⟩
set_option maxRecDepth 20000 in
set_option maxHeartbeats 1600000 in
theorem join_any (g n c : Nat) (o : Nat → Nat) (x y : Nat) (w : World) (h : NumRow w g c n o) (hc : n ≤ c) (hx : x < n) (hy : y < n) (hn : n ≤ 8) (ho : ∀ z, z < n → o z ≤ z) :
    Calls Try.prog 64 #[.slice (some ⟨g, 0, none⟩) n c, .int .i64 (x : Nat), .int .i64 (y : Nat)] w fun e w' => (∃ v, e = .returned v) ∧ NumRow w' g c n (joinO o x y) ∧ w.grownBy w' (some g) := by
  have r0 := h.cell hx hc
  have r1 := h.cell hy hc
  have HR := Lib.hid h
  have HO := Lib.hid ho
  have hx8 := ho x hx
  have hy8 := ho y hy
  obtain ⟨a, ha⟩ : ∃ a, o x = a := ⟨_, rfl⟩
  obtain ⟨d, hd⟩ : ∃ a, o y = a := ⟨_, rfl⟩
  rw [ha] at r0 hx8
  rw [hd] at r1 hy8
  have HA := Lib.hid ha
  have HD := Lib.hid hd
  clear ha hd h ho
  go_enter Try.func64, Try.ntmps64
  go_wp2_with fail
  go_quiet (fail)
  go_wp2_with fail
  have e1 : min (a : Int) (d : Int) = ((min a d : Nat) : Int) := by omega
  have e2 : max (a : Int) (d : Int) = ((max a d : Nat) : Int) := by omega
  rw [e1, e2]
  obtain ⟨m, hm⟩ : ∃ m, min a d = m := ⟨_, rfl⟩
  obtain ⟨t, ht⟩ : ∃ m, max a d = m := ⟨_, rfl⟩
  have hm8 : m ≤ 8 := by omega
  have ht8 : t ≤ 8 := by omega
  rw [hm, ht]
  have HM : Hid (min (o x) (o y) = m) := Lib.hid (by rw [HA.out, HD.out, hm])
  have HT : Hid (max (o x) (o y) = t) := Lib.hid (by rw [HA.out, HD.out, ht])
  clear e1 e2 hm ht r0 r1
  go_loopw [30] (fun i wr => ∃ k : Nat, k ≤ n ∧ i = .int .i64 k ∧ NumRow wr g c n (mixO o x y k) ∧ w.grownBy wr (some g)) (fun i _ => n - (intOf i).toNat)
  case atStart => exact ⟨0, Nat.zero_le _, rfl, by rw [mixO_zero]; exact HR.out.on (below_drewN (Below.refl _ _) _), ⟨rfl, rfl, rfl, Nat.le_refl _, fun _ _ _ => rfl⟩⟩
  case round =>
    obtain ⟨k, hk, rfl, hrow, hg⟩ := hrel
    have HG := Lib.hid hg
    clear hg
    by_cases hlt : k < n
    · have rk := hrow.cell hlt hc
      rw [mixO_at] at rk
      have hk8 := HO.out k hlt
      have HRw := Lib.hid hrow
      obtain ⟨p, hp⟩ : ∃ p, o k = p := ⟨_, rfl⟩
      rw [hp] at rk hk8
      have HP := Lib.hid hp
      clear hp hrow
      by_cases he : p = t
      · subst he
        have fr := HRw.out.frozen (k := k)
        have HN : Hid (NumRow (wr.setCell ⟨g, k, none⟩ (.int .i64 (m : Nat))) g c n (mixO o x y (k + 1))) := Lib.hid (numRow_congr (NumRow.set (i := k) (m := m) HRw.out) (fun z _ => by rw [← HM.out]; exact mixO_set (by rw [HP.out, HT.out]) z))
        go_wp2_with fail
        go_roundw
        case rel => exact ⟨k + 1, by omega, by go_num, HN.out, HG.out.trans (grownBy_cell _ _ _ _)⟩
        case measure => simp [intOf]; omega
      · have he' : ¬ ((p : Int) = t) := by omega
        have HN : Hid (NumRow wr g c n (mixO o x y (k + 1))) := Lib.hid (numRow_congr HRw.out (fun z _ => mixO_keep (by rw [HP.out, HT.out]; exact he) z))
        go_wp2_with fail
        go_roundw
        case rel => exact ⟨k + 1, by omega, by go_num, HN.out, HG.out⟩
        case measure => simp [intOf]; omega
    · obtain rfl : k = n := by omega
      have HN : Hid (NumRow wr g c k (joinO o x y)) := Lib.hid (numRow_congr hrow (fun z hz => mixO_done hz))
      clear hrow
      go_wp2_with fail
      exact bodyPost_end (v := .tuple #[]) (by simp [results, Try.results64, go_sem]) rfl ⟨⟨_, rfl⟩, HN.out, HG.out⟩
end Go.Proofs.Ytfjgapkjpmkplaa.lpi
