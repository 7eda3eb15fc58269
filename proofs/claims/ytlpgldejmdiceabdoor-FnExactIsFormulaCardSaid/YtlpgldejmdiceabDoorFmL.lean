/- FnExactIsFormula (card): for every []int, impl.IsFormula answers as spec.IsFormula does and leaves it as it was. Condition: three tables of the library read as their own text lays them (tied). -/
import Derived.Test.YtlpgldejmdiceabDoorFrm
import Derived.Test.YtlpgldejmdiceabDoorCards
import Derived.Test.YtlpgldejmdiceabDoorTie
import Derived.Deep.DeepHandedRow
import Derived.Deep.DeepWitnessRowRef
import Derived.LaidMore
import Derived.LaidHandle
import Derived.MakeChecks
import Derived.SevenTiedAt
namespace Go.Proofs.YtlpgldejmdiceabDoor.fnExactIsFormula
open kit bg opn strs only hb sg sig isig un over hi fox foh fhd foe frt frm
open Go.ChangeShapes Go.WideShapes Go.ChangeAt Go.RowKit
open Go.ChangeMaps (open_string shut_string)
set_option linter.unusedVariables false
set_option linter.unusedSimpArgs false
set_option maxHeartbeats 1600000 in
theorem walk (A : Option Addr) (n c : Nat) (zs : List Int) (w : World) (h : SRB .i64 w A n zs) (hsh : w.ShapedOpen Tryd.prog) (hL : laidMetH Tryd.prog Rows.fnExactIsFormulaRow.laid w) :
    Calls Tryd.prog 3 #[.slice A n c] w fun e w' => e = .returned (.bool true) ∧ Below w.heap.size w w' := by
  clear hL hsh
  by_cases hs : n ≤ 1048576
  · have HI : Hid (IntsAt w w.heap.size A n zs) := Lib.hid h.1
    have hl := HI.out.len
    have hn1 : ¬ (1048576 : Int) < (n : Int) := by omega
    obtain ⟨b, hb⟩ : ∃ b, isF zs = b := ⟨_, rfl⟩
    have HF := Lib.hid hb
    clear h hb
    go_enter Tryd.func3, Tryd.ntmps3
    go_wp2_with fail
    refine (toIS_any A n c zs w HI.out hs).mono ?_
    rintro e w1 ⟨rfl, hr1, hb1⟩
    have hi1 := ints_row (B := w1.heap.size) hr1 (Nat.le_refl _) hr1.lt hl (fun k hk => rfl)
    go_wp2_with fail
    refine (sIsf_any _ n n zs w1 hi1 hs).mono ?_
    rw [HF.out]
    rintro e w2 ⟨rfl, rfl⟩
    go_wp2_with fail
    refine (toIS_any A n c zs w1 ((HI.out.below hb1).wide hb1.size) hs).mono ?_
    rintro e w3 ⟨rfl, hr3, hb3⟩
    have hi3 := ints_row (B := w3.heap.size) hr3 (Nat.le_refl _) hr3.lt hl (fun k hk => rfl)
    have hk3 := hb1.trans (hb3.mono hb1.size)
    go_wp2_with fail
    refine (iIsf_any _ n n zs w3.heap.size w3 hi3 (Nat.le_refl _) (Nat.le_refl _) hs).mono ?_
    rw [HF.out]
    rintro e w4 ⟨rfl, hb4⟩
    have hk4 := hk3.trans (hb4.mono hk3.size)
    go_wp2_with fail
    refine (toIS_any A n c zs w4 ((HI.out.below hk4).wide hk4.size) hs).mono ?_
    rintro e w5 ⟨rfl, hr5, hb5⟩
    have hi5 := ints_row (B := w5.heap.size) hr5 (Nat.le_refl _) hr5.lt hl (fun k hk => rfl)
    have hk5 := hk4.trans (hb5.mono hk4.size)
    have hi3' := (hi3.below hb4).below (hb5.mono hb4.size)
    go_wp2_with fail
    refine (eqIS_any _ _ n n n zs w5 _ _ hi3' hi5 (by unfold maxLen; omega)).mono ?_
    rintro e w6 ⟨rfl, hd⟩
    have hk6 := hk5.trans (hd.below _)
    go_wp2_with fail
    go_ret
    exact ⟨rfl, hk6⟩
  · have hs' : (1048576 : Int) < (n : Int) := by omega
    go_enter Tryd.func3, Tryd.ntmps3
    go_wp2_with fail
    go_ret
    exact ⟨rfl, Below.refl _ _⟩
theorem own : ownKnob Tryd.prog.godebug = none := by kernel_rfl
theorem laidOut : laidOutB Tryd.prog = true := by kernel_rfl
theorem door_met (os : Os) : laidMetH Tryd.prog Rows.fnExactIsFormulaRow.laid ((World.doorLaid Tryd.prog 2000 os).forCall (fun _ _ => 0) ⟨#[], #[.slice none 0 0], []⟩).memory :=
  laidMetH_of_parts3 (fuel := 8) (laidMet_of_run' 8 (by kernel_rfl) (by kernel_rfl)) (by kernel_rfl) (by kernel_rfl)
theorem reads (os : Os) {H : Type} (enc : TypeId × Value → H) : ∃ places, DataW.whole enc Tryd.prog ((World.doorLaid Tryd.prog 2000 os).forCall (fun _ _ => 0) ⟨#[], #[.slice none 0 0], []⟩).memory Tryd.f3.params.toList Rows.fnExactIsFormulaSpec.vars false #[Value.slice none 0 0].toList 8 = some ([.nil], [], places) :=
  ⟨[], by kernel_rfl⟩

set_option maxRecDepth 100000 in
theorem contract (H : Type) (enc : TypeId × Value → H) (W : World) (base : Nat) (args : Array Value) (ds gs : List (DataW H)) (before : List MemPlace)
    (hval : ∀ (j : Nat) t v, Tryd.f3.params[j]? = some t → args[j]? = some v → Value.okWide Tryd.prog W .any base t v)
    (hW : DataW.Whole enc Tryd.prog Tryd.f3.params.toList Rows.fnExactIsFormulaSpec.vars false W args.toList ds gs before) (hsh : W.ShapedOpen Tryd.prog) (hL : laidMetH Tryd.prog Rows.fnExactIsFormulaRow.laid W) :
    Calls Tryd.prog 3 args W fun e W' => ∃ v, e = .returned v ∧ Rows.fnExactIsFormulaSpec.post enc Tryd.prog Tryd.f3 false true false false W args v W' := by
  have hW' := hW
  obtain ⟨p, q, hA0, hV, rfl, hfz, hnd⟩ := hW
  have hA : DataW.TrodAll enc Tryd.prog W 0 (fun _ => true) true Tryd.f3.params.toList args.toList ds p := hA0
  rw [Tryd.params3] at hA hval
  obtain ⟨v0, vs0, d0, ds0, p0, q0, hargs, rfl, rfl, h0, r0⟩ := trodAll_cons hA
  obtain ⟨rfl, rfl, rfl⟩ := trodAll_nil r0
  obtain rfl : args = #[v0] := by cases args; simp_all
  obtain ⟨rfl, rfl⟩ := trodVars_none hV
  obtain ⟨a0, n0, c0, rfl⟩ := okWide_slice Tryd.underlying22 (hval 0 22 v0 rfl rfl)
  have k0 := h0
  have lt0 : ∀ x ∈ p0, x.block < W.heap.size := by obtain ⟨m, hm⟩ := k0; exact DataW.trod_lt m _ _ _ hm
  obtain ⟨z0, s0⟩ := sr_ints Tryd.underlying22 Tryd.underlying3 (by kernel_rfl) h0 lt0
  clear hA0
  refine (walk a0 n0 c0 z0 W s0 hsh hL).mono fun e W' ⟨he, hg⟩ => ?_
  subst he
  exact ⟨_, rfl, _, _, _, [], _, [], hW', trodAll_mk1 (shut_bool Tryd.underlying4 _), (trodAll_cons_mk (Below.trod laidOut (by kernel_rfl) (of_decide_eq_true (by kernel_rfl)) k0 hg lt0) trodAll_mk0), rfl, hg.frame _, fun h => by cases h⟩

set_option maxRecDepth 100000 in
theorem lifted (os : Os) (started : os.Started) (H : Type) (enc : TypeId × Value → H) (F : Stop.Interp) :
    ReturnsInHanded {} Tryd.checked os 3 .any ((OpenSpec.ofChange Rows.fnExactIsFormulaSpec).preRow enc Tryd.prog Tryd.f3 Rows.fnExactIsFormulaRow.domain false Rows.fnExactIsFormulaRow.laid) (((OpenSpec.ofChange Rows.fnExactIsFormulaSpec).at F).post enc Tryd.prog Tryd.f3 false true false false) := by
  obtain ⟨places, hx⟩ := reads os enc
  refine returnsInHanded_of_row (C := Tryd.checked) (s := OpenSpec.ofChange Rows.fnExactIsFormulaSpec) own started (by kernel_rfl) Tryd.func3
    (witness_row_atRef (enc := enc) (C := Tryd.checked) false (World.doorLaid Tryd.prog 2000 os) #[.slice none 0 0] rfl (by kernel_rfl) (by kernel_rfl) (by kernel_rfl)
      (OpenSpec.preRow_of_cond 8 hx (by kernel_rfl) (fun k hk => by cases hk) (by kernel_rfl) (door_met os))) ?_
  intro W base args ds gs before hval hW _ _ _ hL hsh _
  exact contract H enc W base args ds gs before hval hW hsh hL

theorem said : Rows.FnExactIsFormulaSaid :=
  OpenClaim.holds_of_cond 3 Tryd.f3 rfl rfl rfl rfl rfl rfl rfl ⟨rfl, rfl, rfl, rfl, rfl⟩ rfl rfl rfl rfl rfl (by kernel_rfl) Tryd.func3 (by kernel_rfl)
    (of_decide_eq_true (by kernel_rfl)) (by unfold Func.isWrapper; first | (rw [if_pos (by decide +kernel)]; kernel_rfl) | (rw [if_neg (by decide +kernel)]; exact ⟨rfl, rfl⟩))
    (fun os started H enc _ F => by rw [OpenClaim.pre_eq_preRow]; exact lifted os started H enc F)
theorem plain (f : FuncId) (fn : Func) (hf : Tryd.pinned.checked.prog.funcNamed "loop.example/g01082/laws.FnExactIsFormula" = some f) (hfn : Tryd.pinned.checked.prog.funcs[f]? = some fn) :
    false = Tryd.pinned.checked.prog.looks [] ∧ ∀ (j : Nat) t, fn.params[j]? = some t → Tryd.pinned.checked.prog.wantsStandIn t = false := by
  obtain rfl : f = 3 := Option.some.inj ((show Tryd.prog.funcNamed "loop.example/g01082/laws.FnExactIsFormula" = some 3 by kernel_rfl).symm.trans hf) |>.symm
  obtain rfl : fn = Tryd.f3 := (Option.some.inj (Tryd.func3.symm.trans hfn)).symm
  refine ⟨by kernel_rfl, fun j t ht => ?_⟩
  rw [Tryd.params3] at ht
  have hm : t ∈ [22] := by simpa using Array.mem_of_getElem? ht
  have hall : ([22].all fun u => !Tryd.prog.wantsStandIn u) = true := by kernel_rfl
  exact (show Tryd.prog.wantsStandIn t = false by simpa using List.all_eq_true.1 hall t hm)
theorem card : Rows.FnExactIsFormulaCardSaid :=
  Claim7.holds_tied_plain_at .later [] _ _ _ _ said (fun _ h => by cases h) (by kernel_rfl) (fun _ h => by cases h) fnExactIsFormula_row_tie rfl ⟨rfl, rfl⟩ (by kernel_rfl) rfl plain (by kernel_rfl)


end Go.Proofs.YtlpgldejmdiceabDoor.fnExactIsFormula
