/- spec.l4After, spec.ComposeBigraphs. -/
import Derived.Test.YtlpgldejmdiceabGreatUs
import Derived.Test.YtlpgldejmdiceabGreatUw
namespace Go.Proofs.YtlpgldejmdiceabGreat.ut
open kit bg sg opn strs only hb sig isig un over gn nm inn ht gd im pt marks eqs hc hi hw hn rs br bm bw cf lf ib isa lawb lw cl rt ix tg rl ed tp rtg uw nj cg rk nk wk ek tm gv lep mrp mri mrs pl ft co us nd mb sb wb rn rnm
open Go.RowKit
set_option linter.unusedVariables false
set_option linter.unusedSimpArgs false
/-- a row appended, with memory or without -/
theorem wpList_append_sr {P : Program} (w : World) {ops : Array Oper} {rest : List Oper} {o : Oper} {a : Act} {Q : Exit → Act → World → Prop} (hgd : o.guard = none) (s x : Operand) (t : TypeId)
    (ho : o.op = .call { callee := .builtin .append, args := #[s, x], argTypes := #[t, t] })
    (base : Nat) (e : TypeId) (i : TypeInfo) (z : Value) (bytes : Nat) (ht : P.underlying t = some (.slice e)) (hi : P.info? e = some i) (hz : i.zero = some z)
    (hsize : i.size = 1) (hby : i.bytes = bytes) (hzs : z.cells.size = 1)
    (v : Value) (n : Nat) (xs : List Value) (hs : a.eval s = v) (hown : w.ownsRow base e 1 v n xs)
    (A : Option Addr) (m c : Nat) (news : List Value) (hx : a.eval x = .slice A m c) (hsr : SR w w.heap.size A m news) (h0 : A = none → c = 0) (h1 : ∀ u ∈ news, u.oneCell' = true)
    (h63 : n + m ≤ maxLen) (hbytes : (n + m) * bytes ≤ 140737488355328) (hbase : base ≤ w.heap.size) (w0 : World) (hB : Below base w0 w)
    (h : ∀ v' w', w'.ownsRow base e 1 v' (n + m) (xs ++ news) → Below base w0 w' → w.heap.size ≤ w'.heap.size → wpList P ops Q rest (a.put o.dst v') w') : wpList P ops Q (o :: rest) a w := by
  cases A with
  | none =>
    obtain rfl : c = 0 := h0 rfl
    obtain rfl : m = 0 := by
      by_cases e : m = 0
      · exact e
      · obtain ⟨b2, off2, e2, _⟩ := hsr.2 (by omega)
        cases e2
    have hx0 : news = [] := List.length_eq_zero_iff.1 hsr.1
    subst hx0
    refine wpList_append_own_none hgd s x t ho base e i 1 ht hi v n xs hs hown hx ?_
    exact h v w (by rw [List.append_nil]; exact hown) hB (Nat.le_refl _)
  | some A =>
    refine wpList_append_own w hgd s x t ho base e i z 1 bytes ht hi hz hsize hby hzs (by decide) v n xs hs hown A m c news hx (by rw [hsr.1, Nat.mul_one]) (sr_cells hsr) h1 h63 hbytes hbase (fun v' w' o' g' n' => ?_)
    exact h v' w' o' (hB.grown g' hbase (fun j hj => (hown.lt j hj).1)) g'.size

theorem bl_take {a : Big} {E : Int} {ou : List ByteArray} {k : Nat} {x : Wr} (h : a.inner[k]? = some x) : (blL a E ou).take (k + 1) = (blL a E ou).take k ++ [lkF (lkL 0 E a ou) x.link] := by
  unfold blL
  rw [List.take_add_one, List.getElem?_map, h]
  rfl
set_option maxRecDepth 20000 in
set_option maxHeartbeats 12800000 in
theorem aft_any (cs : List Ctl) (va : Value) (a : Big) (vb : Value) (b : Big) (w : World) (hva : BigAt w w.heap.size va a) (hSa : BigS a) (hNa : NilV va) (hga : bigB cs a = true) (hvb : BigAt w w.heap.size vb b) (hSb : BigS b) (hNb : NilV vb) (hgb : bigB cs b = true) (hft : fitB a b = true) :
    Calls Tryz.prog 55 #[va, vb] w fun e w' => ∃ v, e = .returned v ∧ BigR w' w.heap.size w'.heap.size v (cpB a b) ∧ Below w.heap.size w w' := by
  obtain ⟨A1, n1, c1, A2, n2, c2, A4, n4, c4, A5, n5, c5, rfl, h1, h2, h4, h5⟩ := hva
  obtain ⟨B1, m1, d1, B2, m2, d2, B4, m4, d4, B5, m5, d5, rfl, k1, k2, k4, k5⟩ := hvb
  have hb0 := (Below.refl w.heap.size w).alloc (Nat.le_refl _) (.cells #[.int .i64 a.roots, .slice A1 n1 c1, .slice A2 n2 c2, .int .i64 a.edges, .slice A4 n4 c4, .slice A5 n5 c5] 31)
  have HBa0 : BoxAt (w.alloc (.cells #[.int .i64 a.roots, .slice A1 n1 c1, .slice A2 n2 c2, .int .i64 a.edges, .slice A4 n4 c4, .slice A5 n5 c5] 31)) w.heap.size 31 (.int .i64 a.roots) (.slice A1 n1 c1) (.slice A2 n2 c2) (.int .i64 a.edges) (.slice A4 n4 c4) (.slice A5 n5 c5) := six_new w _ _ _ _ _ _ _
  obtain ⟨U, hU⟩ : ∃ U, w.alloc (.cells #[.int .i64 a.roots, .slice A1 n1 c1, .slice A2 n2 c2, .int .i64 a.edges, .slice A4 n4 c4, .slice A5 n5 c5] 31) = U := ⟨_, rfl⟩
  have hUz : U.heap.size = w.heap.size + 1 := by rw [← hU]; simp
  rw [hU] at HBa0 hb0
  have hb1 := (Below.refl U.heap.size U).alloc (Nat.le_refl _) (.cells #[.int .i64 b.roots, .slice B1 m1 d1, .slice B2 m2 d2, .int .i64 b.edges, .slice B4 m4 d4, .slice B5 m5 d5] 31)
  have HBb0 : BoxAt (U.alloc (.cells #[.int .i64 b.roots, .slice B1 m1 d1, .slice B2 m2 d2, .int .i64 b.edges, .slice B4 m4 d4, .slice B5 m5 d5] 31)) U.heap.size 31 (.int .i64 b.roots) (.slice B1 m1 d1) (.slice B2 m2 d2) (.int .i64 b.edges) (.slice B4 m4 d4) (.slice B5 m5 d5) := six_new U _ _ _ _ _ _ _
  obtain ⟨W, hW⟩ : ∃ W, U.alloc (.cells #[.int .i64 b.roots, .slice B1 m1 d1, .slice B2 m2 d2, .int .i64 b.edges, .slice B4 m4 d4, .slice B5 m5 d5] 31) = W := ⟨_, rfl⟩
  have hWz : W.heap.size = w.heap.size + 2 := by rw [← hW]; simp; omega
  rw [hW] at HBb0 hb1
  rw [hUz] at HBb0
  have hb2 := (Below.refl W.heap.size W).alloc (Nat.le_refl _) (.cells #[.int .i64 0, .slice none 0 0, .slice none 0 0, .int .i64 0, .slice none 0 0, .slice none 0 0] 31)
  have HBr0 : BoxAt (W.alloc (.cells #[.int .i64 0, .slice none 0 0, .slice none 0 0, .int .i64 0, .slice none 0 0, .slice none 0 0] 31)) W.heap.size 31 (.int .i64 0) (.slice none 0 0) (.slice none 0 0) (.int .i64 0) (.slice none 0 0) (.slice none 0 0) := six_new W _ _ _ _ _ _ _
  obtain ⟨X, hX⟩ : ∃ X, W.alloc (.cells #[.int .i64 0, .slice none 0 0, .slice none 0 0, .int .i64 0, .slice none 0 0, .slice none 0 0] 31) = X := ⟨_, rfl⟩
  have hXz : X.heap.size = w.heap.size + 3 := by rw [← hX]; simp; omega
  rw [hX] at HBr0 hb2
  rw [hWz] at HBr0
  have HUq := Lib.hid hU
  have HWq := Lib.hid hW
  have HXq := Lib.hid hX
  have HB0 := Lib.hid (hb0.trans ((hb1.trans (hb2.mono hb1.size)).mono hb0.size))
  have HBa := Lib.hid ((HBa0.on hb1).on hb2)
  have HBb := Lib.hid (HBb0.on hb2)
  have HBr := Lib.hid HBr0
  have HXz := Lib.hid hXz
  have hVa := Lib.hid (fun (Y : World) (hY : Below w.heap.size w Y) => (BigAt.wide (BigAt.below ⟨_, _, _, _, _, _, _, _, _, _, _, _, rfl, h1, h2, h4, h5⟩ hY) hY.size : BigAt Y Y.heap.size (.agg #[.int .i64 a.roots, .slice A1 n1 c1, .slice A2 n2 c2, .int .i64 a.edges, .slice A4 n4 c4, .slice A5 n5 c5]) a))
  have hVb := Lib.hid (fun (Y : World) (hY : Below w.heap.size w Y) => (BigAt.wide (BigAt.below ⟨_, _, _, _, _, _, _, _, _, _, _, _, rfl, k1, k2, k4, k5⟩ hY) hY.size : BigAt Y Y.heap.size (.agg #[.int .i64 b.roots, .slice B1 m1 d1, .slice B2 m2 d2, .int .i64 b.edges, .slice B4 m4 d4, .slice B5 m5 d5]) b))
  clear hU hW hX hb0 hb1 hb2 HBa0 HBb0 HBr0 hUz hWz hXz
  have hya := sizes_of (big_of hga).2.1
  have hyb := sizes_of (big_of hgb).2.1
  have hnilA := hNa.get
  have l4 : a.outer.length = n4 := h4.strlen
  have l5 : a.inner.length = n5 := h5.1
  have hfi := fit_of hft
  obtain ⟨E, hE⟩ : ∃ E : Nat, a.edges = E := ⟨a.edges.toNat, by omega⟩
  have la := (big_lks hga).2
  have HNm := Lib.hid (fun (Y : World) (hY : Below w.heap.size w Y) => nmd_any A4 A4 n4 c4 n4 c4 a.outer a.outer (a.edges + b.edges) Y ((h4.below hY).wide hY.size) ((h4.below hY).wide hY.size) (by omega) (by omega) (by omega))
  have HEa := Lib.hid (show ∀ Y : World, Calls Tryz.prog 76 #[.int .i64 0, .int .i64 a.edges] Y fun e w' => ∃ v, e = .returned v ∧ w'.ownsRow Y.heap.size 3 1 v E ((seqF 0 E).map (Value.int .i64)) ∧ Below Y.heap.size Y w' from fun Y => by rw [hE]; exact edg_any 0 E Y (by omega) (by omega))
  have HUn := Lib.hid (show ∀ (Ak : Option Addr) (ck : Nat) (Al : Option Addr) (cl : Nat) (Y : World) (hY : Below w.heap.size w Y) (hk : IntsAt Y Y.heap.size Ak n4 (nmdL (a.edges + b.edges) a.outer a.outer)) (h0k : Ak = none → ck = 0) (hl : IntsAt Y Y.heap.size Al n5 (blL a (a.edges + b.edges) a.outer)) (h0l : Al = none → cl = 0), Calls Tryz.prog 77 #[.agg #[.int .i64 a.roots, .slice A1 n1 c1, .slice A2 n2 c2, .int .i64 a.edges, .slice A4 n4 c4, .slice A5 n5 c5], .agg #[.int .i64 b.roots, .slice B1 m1 d1, .slice B2 m2 d2, .int .i64 b.edges, .slice B4 m4 d4, .slice B5 m5 d5], .slice A4 n4 c4, .slice Ak n4 ck, .slice Al n5 cl] Y fun e w' => ∃ v, e = .returned v ∧ BigR w' Y.heap.size w'.heap.size v (cpB a b) ∧ Below Y.heap.size Y w' from fun Ak ck Al cl Y hY hk h0k hl h0l =>
    und_any cs (.agg #[.int .i64 a.roots, .slice A1 n1 c1, .slice A2 n2 c2, .int .i64 a.edges, .slice A4 n4 c4, .slice A5 n5 c5]) a (.agg #[.int .i64 b.roots, .slice B1 m1 d1, .slice B2 m2 d2, .int .i64 b.edges, .slice B4 m4 d4, .slice B5 m5 d5]) b A4 n4 c4 a.outer Ak n4 ck (nmdL (a.edges + b.edges) a.outer a.outer) Al n5 cl (blL a (a.edges + b.edges) a.outer) Y (hVa.out Y hY) hSa hNa hga (hVb.out Y hY) hSb hNb hgb ((h4.below hY).wide hY.size) (by omega) hnilA.2.2.1 hk l4.symm h0k hl (by rw [← hfi.2.2]; exact l5.symm) h0l hfi.1)
  obtain ⟨Mb, hMb⟩ : ∃ Mb, cpB a b = Mb := ⟨_, rfl⟩
  rw [hMb] at HUn ⊢
  clear hMb
  have H5 := Lib.hid h5
  have HLa := Lib.hid la
  have HL4 := Lib.hid l4
  have HL5 := Lib.hid l5
  have HEe := Lib.hid hE
  have hn5 : n5 ≤ 16 := by omega
  have hn4 : n4 ≤ 16 := by omega
  have hE8 : E ≤ 8 := by omega
  have hwE : wrap64 (a.edges + b.edges) = a.edges + b.edges := by unfold wrap64; omega
  have HNl : Hid ((nmdL (a.edges + b.edges) a.outer a.outer).length = n4) := Lib.hid (by rw [nmd_len]; exact l4)
  have HLt : Hid ((seqF 0 E).map (Value.int .i64) ++ (nmdL (a.edges + b.edges) a.outer a.outer).map (Value.int .i64) = (lkL 0 (a.edges + b.edges) a a.outer).map (Value.int .i64)) := Lib.hid (by unfold lkL; rw [hE, Int.toNat_natCast, List.map_append])
  have HLl : Hid ((lkL 0 (a.edges + b.edges) a a.outer).length = E + n4) := Lib.hid (by rw [lkL_len, hE, Int.toNat_natCast, l4])
  have HBl : Hid ((blL a (a.edges + b.edges) a.outer).length = n5) := Lib.hid (by unfold blL; rw [List.length_map]; exact l5)
  obtain ⟨i1, hi, hz0, hz1, hz2⟩ := info_parts int_info
  have HI := Lib.hid (And.intro hi (And.intro hz0 (And.intro hz1 hz2)))
  clear hi hz0 hz1 hz2 hya hyb hnilA l4 l5 hfi hE la hSa hNa hga hSb hNb hgb h1 h2 h4 h5 k1 k2 k4 k5 hVa hVb hft
  obtain ⟨x0, x1, x2, x3, x4, x5⟩ := HBa.out.get
  obtain ⟨y0, y1, y2, y3, y4, y5⟩ := HBb.out.get
  go_enter Tryz.func55, Tryz.ntmps55
  go_wp2_with fail
  rw [HUq.out, HWq.out, HXq.out]
  go_wp2_with fail
  refine (HNm.out X HB0.out).mono ?_
  rintro e w1 ⟨v1, rfl, ho1, hne1, hb⟩
  obtain ⟨AK, cK, rfl, hrK⟩ := ints_owned ho1
  rw [HNl.out] at hrK ⊢
  have hw1 := HB0.out.trans (hb.mono HB0.out.size)
  have HBa1 := Lib.hid (HBa.out.on hb)
  have HBb1 := Lib.hid (HBb.out.on hb)
  have HBr1 := Lib.hid (HBr.out.on hb)
  have HRK := Lib.hid hrK
  have HW1 := Lib.hid hw1
  have hsX1 := hb.size
  clear ho1 hrK hb hw1 hne1 x0 x1 x2 x3 x4 x5 y0 y1 y2 y3 y4 y5
  obtain ⟨x0, x1, x2, x3, x4, x5⟩ := HBa1.out.get
  go_wp2_with fail
  refine (HEa.out w1).mono ?_
  rintro e w2 ⟨v2, rfl, ho2, hb2⟩
  have hsr : SR w2 w2.heap.size AK n4 ((nmdL (a.edges + b.edges) a.outer a.outer).map (Value.int .i64)) := row_ints (HRK.out.on hb2) HNl.out
  have hone : ∀ u ∈ (nmdL (a.edges + b.edges) a.outer a.outer).map (Value.int .i64), u.oneCell' = true := fun u hu => by obtain ⟨s, -, rfl⟩ := List.mem_map.1 hu; rfl
  have hs2 := hb2.size
  have h0K := nil0 HRK.out
  clear x0 x1 x2 x3 x4 x5
  go_wp2_with (at_builtin; refine wpList_append_sr _ rfl _ _ 27 rfl w1.heap.size 3 i1 (.int .i64 0) 8 Tryz.underlying27 HI.out.1 HI.out.2.1 HI.out.2.2.1 HI.out.2.2.2 rfl _ _ _ rfl ho2 AK n4 cK _ rfl hsr h0K hone (by unfold maxLen; omega) (by omega) hs2 w1 hb2 ?_; intro v3 w3 ho3 hb3 hs3; rw [HLt.out] at ho3; obtain ⟨AL, cL, rfl, hrL⟩ := ints_owned ho3; rw [HLl.out] at hrL; rw [HLl.out]; have HRL := Lib.hid hrL; have HB13 := Lib.hid hb3; have hs3w : w1.heap.size ≤ w3.heap.size := hb3.size; clear ho3 hrL hb3 hsr ho2 hb2)
  have hbz := (Below.refl w3.heap.size w3).alloc (Nat.le_refl _) (.cells #[] 3)
  have hoz := ownsRow_nil_new w3 3 1 w3.heap.size (Nat.le_refl _)
  have hb14 := HB13.out.trans (hbz.mono HB13.out.size)
  have HW4 := Lib.hid (HW1.out.trans (hb14.mono HW1.out.size))
  have HBa4 := Lib.hid (HBa1.out.on hb14)
  have HBb4 := Lib.hid (HBb1.out.on hb14)
  have HBr4 := Lib.hid (HBr1.out.on hb14)
  have HRK4 := Lib.hid (HRK.out.on hb14)
  have HRL4 := Lib.hid (HRL.out.on hbz)
  obtain ⟨w4, hq4⟩ : ∃ w4, w3.alloc (.cells #[] 3) = w4 := ⟨_, rfl⟩
  rw [hq4] at hbz hoz HW4 HBa4 HBb4 HBr4 HRK4 HRL4 ⊢
  have hlo : w3.heap.size ≤ w4.heap.size := hbz.size
  clear hq4 hb14 HBa1 HBb1 HBr1 HRK HRL HW1 HB13
  have h13 : w1.heap.size ≤ w3.heap.size := hs3w
  have hX1 := HW4.out.size
  have HLi : Hid (IntsAt w4 w3.heap.size AL (E + n4) (lkL 0 (a.edges + b.edges) a a.outer)) := Lib.hid (by
    have h := HRL4.out
    rw [← HLl.out] at h ⊢
    exact intsR_at h)
  have HKi : Hid (IntsAt w4 w3.heap.size AK n4 (nmdL (a.edges + b.edges) a.outer a.outer)) := Lib.hid (by
    have h := HRK4.out.wide (Nat.le_refl _) h13
    rw [← HNl.out] at h ⊢
    exact intsR_at h)
  have hXw := HXz.out
  have hX3 : X.heap.size ≤ w3.heap.size := Nat.le_trans hsX1 h13
  clear HRL4 HRK4 hs2 hone
  go_loopw [7, 8] (fun l i wr => ∃ (k : Nat) (v : Value), k ≤ n5 ∧ i = .int .i64 k ∧ v = l ∧ wr.ownsRow w3.heap.size 3 1 v k (((blL a (a.edges + b.edges) a.outer).take k).map (Value.int .i64)) ∧ Below w3.heap.size w4 wr) (fun _ i _ => n5 - (intOf i).toNat)
  case atStart => exact ⟨0, _, Nat.zero_le _, rfl, rfl, hoz, (Below.refl _ _).mono hlo⟩
  case round =>
    obtain ⟨k, v, hk, rfl, rfl, hown, hbel⟩ := hrel
    have hwr := hbel.size
    have HBw : Hid (Below w.heap.size w wr) := Lib.hid (HW4.out.trans (hbel.mono (by omega)))
    obtain ⟨x0, x1, x2, x3, x4, x5⟩ := (HBa4.out.below hbel (by omega)).get
    by_cases hlt : k < n5
    · obtain ⟨b5, o5, x, rfl, hb5, hx, cx0, cx1⟩ := H5.out.get hlt
      have hl := HLa.out x (List.mem_of_getElem? hx)
      obtain ⟨m, hm⟩ : ∃ m : Nat, x.link = m := ⟨x.link.toNat, by omega⟩
      have hmE : m < E + n4 := by have := HEe.out; have := HL4.out; omega
      obtain ⟨bl, ol, z, rfl, hbl, hz, cz⟩ := HLi.out.get hmE
      obtain ⟨D, hD⟩ : ∃ D, ((blL a (a.edges + b.edges) a.outer).take k).map (Value.int .i64) = D := ⟨_, rfl⟩
      have HT := Lib.hid (show ((blL a (a.edges + b.edges) a.outer).take (k + 1)).map (Value.int .i64) = D ++ [.int .i64 z] by
        rw [bl_take hx, List.map_append, hD, hm, lkF_get hz]
        rfl)
      rw [hD] at hown
      have q0 := (HBw.out.cell (p := ⟨b5, o5 + k * 2 + 1, none⟩) hb5).trans cx1
      rw [hm] at q0
      have q1 := (hbel.cell (p := ⟨bl, ol + m, none⟩) hbl).trans cz
      clear hD hx cx0 cx1 hl hm hz cz
      go_wp2_with (at_builtin; refine wpList_append_own _ rfl _ _ 27 rfl w3.heap.size 3 i1 (.int .i64 0) 1 8 Tryz.underlying27 HI.out.1 HI.out.2.1 HI.out.2.2.1 HI.out.2.2.2 rfl (by decide) _ _ _ rfl (hown.alloc _) ⟨wr.heap.size, 0, none⟩ 1 1 [.int .i64 z] rfl rfl (cell_one_new _ _ _) (fun x hx => by simp at hx; subst hx; rfl) (by unfold maxLen; omega) (by omega) (by simp; omega) ?_; intro v1 w5 hown1 hgrow1 hnil1; have hb1 := Lib.hid ((hbel.alloc (by omega) (.cells #[.int .i64 z] 3)).grown hgrow1 (by simp; omega) (fun j hj => (hown.lt j hj).1)); have HOwn := Lib.hid hown1; clear hown1 hgrow1 hnil1 hown x0 x1 x2 x3 x4 x5 q0 q1)
      go_wp2_with fail
      go_roundw
      case rel => exact ⟨k + 1, _, by omega, by go_num, rfl, by rw [HT.out]; exact HOwn.out, hb1.out⟩
      case measure => simp [intOf]; omega
    · obtain rfl : n5 = k := by omega
      rw [List.take_of_length_le (by rw [HBl.out]; exact Nat.le_refl _)] at hown
      obtain ⟨AD, cD, rfl, hrD⟩ := ints_owned hown
      rw [HBl.out] at hrD ⊢
      have HC := Lib.hid (HUn.out AK cK AD cD wr HBw.out ((HKi.out.below hbel).wide (by omega)) h0K (row_ints hrD HBl.out) (nil0 hrD))
      have HBr5 := Lib.hid (HBr4.out.below hbel (show w.heap.size + 2 < w3.heap.size by omega))
      obtain ⟨y0, y1, y2, y3, y4, y5⟩ := (HBb4.out.below hbel (show w.heap.size + 1 < w3.heap.size by omega)).get
      clear hown hrD hbel
      go_wp2_with fail
      refine HC.out.mono ?_
      rintro e w6 ⟨v6, rfl, hr, hb⟩
      obtain ⟨D1, g1, D2, g2, D4, g4, D5, g5, rfl⟩ := hr.shape
      have HB6 := Lib.hid (HBw.out.trans (hb.mono HBw.out.size))
      have HBr6 := Lib.hid (HBr5.out.on hb)
      have HR6 := Lib.hid (hr.wide (lo' := w.heap.size) HBw.out.size (Nat.le_refl _))
      clear hr hb x0 x1 x2 x3 x4 x5 y0 y1 y2 y3 y4 y5
      obtain ⟨z0, z1, z2, z3, z4, z5⟩ := HBr6.out.get
      have f0 := World.rowIs.frozen HBr6.out 0
      have f1 := World.rowIs.frozen HBr6.out 1
      have f2 := World.rowIs.frozen HBr6.out 2
      have f3 := World.rowIs.frozen HBr6.out 3
      have f4 := World.rowIs.frozen HBr6.out 4
      have f5 := World.rowIs.frozen HBr6.out 5
      go_wp2_with fail
      have hbig := (sets6_big HBr6.out HR6.out (.int .i64 Mb.roots) (.slice D1 Mb.nodes.length g1) (.slice D2 Mb.sites.length g2) (.int .i64 Mb.edges) (.slice D4 Mb.outer.length g4) (.slice D5 Mb.inner.length g5)).here
      have hbel := sets6_below HB6.out (show w.heap.size ≤ w.heap.size + 2 by omega) (.int .i64 Mb.roots) (.slice D1 Mb.nodes.length g1) (.slice D2 Mb.sites.length g2) (.int .i64 Mb.edges) (.slice D4 Mb.outer.length g4) (.slice D5 Mb.inner.length g5)
      unfold sets6 at hbig hbel
      exact bodyPost_ret (v := .agg #[.int .i64 Mb.roots, .slice D1 Mb.nodes.length g1, .slice D2 Mb.sites.length g2, .int .i64 Mb.edges, .slice D4 Mb.outer.length g4, .slice D5 Mb.inner.length g5]) (by simp [results, Tryz.results55, go_sem, z0, z1, z2, z3, z4, z5]) rfl ⟨_, rfl, hbig, hbel⟩
end Go.Proofs.YtlpgldejmdiceabGreat.ut
