/- impl.retargeted: a copy of a Bigraph in which each target is another. -/
import Derived.Test.YtlpgldejmdiceabGreatTg
import Derived.Test.YtlpgldejmdiceabGreatQe
import Derived.Test.YtlpgldejmdiceabGreatQb
import Derived.Deep.Cut
import Derived.Deep.CutRange
import Derived.Deep.RegionHeld3
import Derived.Handy
namespace Go.Proofs.YtlpgldejmdiceabGreat.rtg
open kit bg sg opn strs only hb sig isig un over gn nm inn ht gd im pt marks eqs hc hi hw hn rs br bm bw cf lf ib isa lawb lw cl rt ix tg rl ed tp over
open Go.RowKit
set_option linter.unusedVariables false
set_option linter.unusedSimpArgs false
/-- the number of a target -/
noncomputable def lkOf (E : Int) (ou : List ByteArray) (t : Tgt) : Int := if isE t = true then t.edge else E + ixF ou t.name
theorem lk_edge {E : Int} {ou : List ByteArray} {t : Tgt} (h : isE t = true) : lkOf E ou t = t.edge := if_pos h
theorem lk_name {E : Int} {ou : List ByteArray} {t : Tgt} (h : isE t = false) : lkOf E ou t = E + ixF ou t.name := by unfold lkOf; rw [if_neg (by rw [h]; decide)]
noncomputable def reL (b : Big) (f : Tgt → Tgt) (E : Int) (ou : List ByteArray) (l : Int) : Int := lkOf E ou (f (tgOf b l))
noncomputable def reB (b : Big) (f : Tgt → Tgt) (E : Int) (ou : List ByteArray) : Big := ⟨b.roots, (relB (reL b f E ou) b).nodes, b.sites, E, ou, (relB (reL b f E ou) b).inner⟩
set_option maxRecDepth 20000 in
set_option maxHeartbeats 3200000 in
theorem re1_any (G : FuncId) (lb : Array Value) (f : Tgt → Tgt) (b : Big) (A1 : Option Addr) (n1 c1 : Nat) (A2 : Option Addr) (n2 c2 : Nat) (A4 : Option Addr) (n4 c4 : Nat) (A5 : Option Addr) (n5 c5 : Nat) (E : Int) (Ao : Option Addr) (no co : Nat) (ou : List ByteArray) (l : Int) (βf β5 βe βo : Nat) (w : World) (eg : ∀ args w, (callFunc G args).run Tryz.prog w = .ok (.enter G args) w)
    (hG : ∀ Y, Below w.heap.size w Y → Calls Tryz.prog G (#[tgV (tgOf b l)] ++ lb) Y fun e w' => e = .returned (tgV (f (tgOf b l))) ∧ Below Y.heap.size Y w')
    (hv : BigAt w w.heap.size (.agg #[.int .i64 b.roots, .slice A1 n1 c1, .slice A2 n2 c2, .int .i64 b.edges, .slice A4 n4 c4, .slice A5 n5 c5]) b) (hx : BoxAt w β5 31 (.int .i64 b.roots) (.slice A1 n1 c1) (.slice A2 n2 c2) (.int .i64 b.edges) (.slice A4 n4 c4) (.slice A5 n5 c5)) (cf : w.cell? ⟨βf, 0, none⟩ = some (.func (.func G) #[] lb)) (ce : w.cell? ⟨βe, 0, none⟩ = some (.int .i64 E)) (co_ : w.cell? ⟨βo, 0, none⟩ = some (.slice Ao no co)) (hso : SR w w.heap.size Ao no (ou.map Value.string)) (hno : no ≤ 1048576)
    (hl : 0 ≤ l ∧ l < b.edges + b.outer.length) (hE : 0 ≤ b.edges ∧ b.edges ≤ 8) (ho : b.outer.length ≤ 16) (hEE : -1000 ≤ E ∧ E ≤ 1000) (hβ : βf < w.heap.size ∧ βe < w.heap.size ∧ βo < w.heap.size) :
    Calls Tryz.prog 113 #[.int .i64 l, .pointer (some ⟨βf, 0, none⟩), .pointer (some ⟨β5, 0, none⟩), .pointer (some ⟨βe, 0, none⟩), .pointer (some ⟨βo, 0, none⟩)] w fun e w' => e = .returned (.int .i64 (reL b f E ou l)) ∧ Below w.heap.size w w' := by
  obtain ⟨hb1, hb2, hb3⟩ := hβ
  obtain ⟨hEE0, hEE1⟩ := hEE
  have HTo := Lib.hid (fun Y (hY : Below w.heap.size w Y) => tof_any (.agg #[.int .i64 b.roots, .slice A1 n1 c1, .slice A2 n2 c2, .int .i64 b.edges, .slice A4 n4 c4, .slice A5 n5 c5]) b l w Y hv hY hl hE ho)
  have HE0 : Hid (reL b f E ou l = lkOf E ou (f (tgOf b l))) := Lib.hid rfl
  obtain ⟨T, hT⟩ : ∃ T, tgOf b l = T := ⟨_, rfl⟩
  rw [hT] at HTo hG HE0
  obtain ⟨U, hU⟩ : ∃ U, f T = U := ⟨_, rfl⟩
  rw [hU] at hG HE0
  rw [HE0.out]
  have HG := Lib.hid hG
  have HIx := Lib.hid (fun Y (hY : Below w.heap.size w Y) => index_any Ao no co ou U.name Y _ (hso.below hY) hno)
  have HIn := Lib.hid (ixF_in ou U.name)
  have HLn := Lib.hid hso.strlen
  have HBx := Lib.hid hx
  have HCf := Lib.hid cf
  have HCe := Lib.hid ce
  have HCo := Lib.hid co_
  have HS : Hid (∀ w', Below w.heap.size w w' → w'.cell? ⟨βf, 0, none⟩ = some (.func (.func G) #[] lb) ∧ w'.cell? ⟨β5, 0, none⟩ = some (.int .i64 b.roots) ∧ w'.cell? ⟨β5, 1, none⟩ = some (.slice A1 n1 c1) ∧ w'.cell? ⟨β5, 2, none⟩ = some (.slice A2 n2 c2) ∧ w'.cell? ⟨β5, 3, none⟩ = some (.int .i64 b.edges) ∧ w'.cell? ⟨β5, 4, none⟩ = some (.slice A4 n4 c4) ∧ w'.cell? ⟨β5, 5, none⟩ = some (.slice A5 n5 c5)) := Lib.hid (fun w' hq => ⟨(hq.cell (p := ⟨βf, 0, none⟩) hb1).trans cf, (hx.on hq).get⟩)
  have HcE := Lib.hid (fun w' (hq : Below w.heap.size w w') => (hq.cell (p := ⟨βe, 0, none⟩) hb2).trans ce)
  have HcO := Lib.hid (fun w' (hq : Below w.heap.size w w') => (hq.cell (p := ⟨βo, 0, none⟩) hb3).trans co_)
  obtain ⟨x0, x1, x2, x3, x4, x5⟩ := hx.get
  clear hv hx ce co_ hso hG hl hE ho hT hU HE0 HBx
  go_enter Tryz.func113, Tryz.ntmps113
  go_wp2_with fail
  go_cut [7] from 8 to 12 (fun s7 wx => ∃ β, s7 = .pointer (some ⟨β, 0, none⟩) ∧ w.heap.size ≤ β ∧ TwoAt wx β U ∧ Below w.heap.size w wx)
  case first =>
    have hkD := (Below.refl w.heap.size w).drew
    have hkA := ((Below.refl w.heap.size w).alloc (Nat.le_refl _) (.cells #[.int .i64 0, .string ⟨#[]⟩] 119)).drew
    have hrA : TwoAt (w.alloc (.cells #[.int .i64 0, .string ⟨#[]⟩] 119)).drew w.heap.size ⟨0, noS⟩ := two_new w ⟨0, noS⟩
    clear x0 x1 x2 x3 x4 x5 cf
    go_region_held3 (fun w' => w'.cell? ⟨βf, 0, none⟩ = some (.func (.func G) #[] lb) ∧ w'.cell? ⟨β5, 0, none⟩ = some (.int .i64 b.roots) ∧ w'.cell? ⟨β5, 1, none⟩ = some (.slice A1 n1 c1) ∧ w'.cell? ⟨β5, 2, none⟩ = some (.slice A2 n2 c2) ∧ w'.cell? ⟨β5, 3, none⟩ = some (.int .i64 b.edges) ∧ w'.cell? ⟨β5, 4, none⟩ = some (.slice A4 n4 c4) ∧ w'.cell? ⟨β5, 5, none⟩ = some (.slice A5 n5 c5)) (exact HS.out _ (by go_grown))
      (first
       | (go_at_call 94; refine (HTo.out ((w.alloc (.cells #[.int .i64 0, .string ⟨#[]⟩] 119)).drew) hkA).mono ?_; rintro e w1 ⟨rfl, hb⟩; have hk1 := hkA.trans (hb.mono hkA.size); have hs1 := hk1.size; have hrow := hrA.on hb; have hβ : w.heap.size ≤ w.heap.size := Nat.le_refl _; clear hb)
       | (go_at_call 94; refine (HTo.out w.drew hkD).mono ?_; rintro e w1 ⟨rfl, hb⟩; have hk1 := hkD.trans (hb.mono hkD.size); have hs1 := hk1.size; clear hb)
       | (have hTest := hβ; go_at_fn G; refine (HG.out _ hk1).mono ?_; rintro e w2 ⟨rfl, hb⟩; have hk2 := hk1.trans (hb.mono hk1.size); have hs2 := hk2.size; have hrow := hrow.on hb; clear hTest; obtain ⟨z0, z1⟩ := hrow.get; obtain ⟨f0, f1⟩ := hrow.fz; clear hb; (try dsimp only [tgV]))
       | (go_at_fn G; refine (HG.out (w1.alloc (.cells #[.int .i64 0, .string ⟨#[]⟩] 119)) (hk1.alloc hk1.size _)).mono ?_; rintro e w2 ⟨rfl, hb⟩; have hkA1 := hk1.alloc hk1.size (.cells #[.int .i64 0, .string ⟨#[]⟩] 119); have hk2 := hkA1.trans (hb.mono hkA1.size); have hs2 := hk2.size; have hrow : TwoAt w2 w1.heap.size ⟨0, noS⟩ := (two_new w1 ⟨0, noS⟩).on hb; have hβ := hk1.size; obtain ⟨z0, z1⟩ := hrow.get; obtain ⟨f0, f1⟩ := hrow.fz; clear hb; (try dsimp only [tgV]))
       | (go_at_fn G; refine (HG.out _ hk1).mono ?_; rintro e w2 ⟨rfl, hb⟩; have hk2 := hk1.trans (hb.mono hk1.size); have hs2 := hk2.size; clear hb; (try dsimp only [tgV])))
    all_goals (go_wp2_with fail; go_meet)
    all_goals (first | exact ⟨_, rfl, hβ, hrow.put (u := U), (hk2.setCell hβ _).setCell hβ _⟩ | exact ⟨_, rfl, hk2.size, two_new w2 U, hk2.alloc hk2.size _⟩)
  case rest =>
    obtain ⟨β, rfl, hβ, hrow, hk⟩ := hcut
    rename World => wx
    obtain ⟨z0, z1⟩ := hrow.get
    have hβl := hrow.lt
    have HRow := Lib.hid hrow
    have HK := Lib.hid hk
    have hxs := hk.size
    have CE := Lib.hid (isE_any U wx)
    clear x0 x1 x2 x3 x4 x5 hrow hk cf
    cases hq : isE U with
    | true =>
      rw [hq] at CE
      have HL := Lib.hid (lk_edge (E := E) (ou := ou) hq)
      clear hq
      go_wp2_with fail
      refine CE.out.mono ?_
      rintro e w3 ⟨rfl, hb⟩
      obtain ⟨y0, y1⟩ := (HRow.out.on hb).get
      have HK3 := Lib.hid (HK.out.trans (hb.mono HK.out.size))
      clear hb CE z0 z1
      go_wp2_with fail
      go_ret
      exact ⟨by rw [HL.out]; rfl, HK3.out⟩
    | false =>
      rw [hq] at CE
      have HL := Lib.hid (lk_name (E := E) (ou := ou) hq)
      clear hq
      obtain ⟨r, hr⟩ : ∃ r, ixF ou U.name = r := ⟨_, rfl⟩
      rw [hr] at HIx HIn HL
      clear hr
      have hr0 := HIn.out
      have hr1 := HLn.out
      have hwr : IntKind.i64.wrap (E + r) = E + r := IntWalk.i64_in _ (by omega)
      go_wp2_with fail
      refine CE.out.mono ?_
      rintro e w3 ⟨rfl, hb⟩
      have hk3 := HK.out.trans (hb.mono HK.out.size)
      have HK3 := Lib.hid hk3
      obtain ⟨y0, y1⟩ := (HRow.out.on hb).get
      have c0 := HcE.out _ hk3
      have c1' := HcO.out _ hk3
      have hs3 := hb.size
      clear hb CE z0 z1
      go_wp2_with fail
      have g0 := Over.get c0 (show βe < w3.heap.size by omega)
      have g1 := Over.get c1' (show βo < w3.heap.size by omega)
      have g2 := Over.get y1 (show β < w3.heap.size by omega)
      have HKa := Lib.hid (fun y : Over w3 => over_same (HIx.out y.w (hk3.trans (y.below.mono hk3.size))))
      clear c0 c1' y0 y1 hk3
      refine wp_region_over (by kernel_rfl) (by kernel_rfl) ?_
      repeat (go_big_quiet_step (first | (go_at_call 95; with_reducible exact HKa.out _)))
      refine wpQuiet_nil ?_
      rintro _ ⟨y, rfl⟩
      have hy := y.below
      obtain ⟨w9, hw9⟩ : ∃ w9, y.w = w9 := ⟨_, rfl⟩
      rw [hw9] at hy ⊢
      clear hw9 g0 g1 g2
      have HK9 := Lib.hid (HK3.out.trans (hy.mono HK3.out.size))
      clear hy
      go_wp2_with fail
      go_ret
      exact ⟨by rw [HL.out]; rfl, HK9.out⟩
end Go.Proofs.YtlpgldejmdiceabGreat.rtg
