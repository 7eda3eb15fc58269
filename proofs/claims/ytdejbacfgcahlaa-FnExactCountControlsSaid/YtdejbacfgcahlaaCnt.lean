/- How many nodes have each Control: spec.l2Count, spec.CountControls, impl.CountControls. -/
import Derived.Test.YtdejbacfgcahlaaRs
import Derived.StillTailTactics
namespace Go.Proofs.Ytdejbacfgcahlaa.cnt
open kit bg opn strs only hb sg sig isig un gd inn ht hi cf im ib rs
open Go.RowKit
set_option linter.unusedVariables false

/-- how many of the first nodes have this Control -/
def cnt (ns : List Nd) : Nat → Nat → Nat
  | 0, _ => 0
  | k + 1, j => cnt ns k j + match ns[k]? with
    | some x => if x.control = (j : Int) then 1 else 0
    | none => 0
theorem cnt_le (ns : List Nd) : ∀ k j, cnt ns k j ≤ k
  | 0, _ => Nat.zero_le _
  | k + 1, j => by
    have := cnt_le ns k j
    unfold cnt
    split
    · split <;> omega
    · omega
theorem cnt_hit {ns : List Nd} {k t : Nat} {x : Nd} (h : ns[k]? = some x) (ht : x.control = (t : Int)) : cnt ns (k + 1) t = cnt ns k t + 1 := by
  rw [cnt, h]
  show _ + (if x.control = (t : Int) then 1 else 0) = _
  rw [if_pos ht]
theorem cnt_miss {ns : List Nd} {k t j : Nat} {x : Nd} (h : ns[k]? = some x) (ht : x.control = (t : Int)) (hj : j ≠ t) : cnt ns (k + 1) j = cnt ns k j := by
  rw [cnt, h]
  show _ + (if x.control = (j : Int) then 1 else 0) = _
  rw [if_neg (by omega)]; rfl
def cntL (ns : List Nd) (m n : Nat) : List Int := (List.range n).map (fun j => (cnt ns m j : Int))
theorem cntL_len (ns : List Nd) (m n : Nat) : (cntL ns m n).length = n := by simp [cntL]
def cntF (ns : List Nd) (m : Nat) (j : Nat) : Value := .int .i64 (cnt ns m j : Nat)
theorem res_cnt {w : World} {g n lo hi : Nat} {ns : List Nd} {m : Nat} (h : w.rowIs g 3 n (cntF ns m)) (h1 : lo ≤ g) (h2 : g < hi) : Res w lo hi 3 (.slice (some ⟨g, 0, none⟩) n n) ((cntL ns m n).map (Value.int .i64)) := by
  have hl : ((cntL ns m n).map (Value.int .i64)).length = n := by rw [List.length_map, cntL_len]
  refine ⟨some ⟨g, 0, none⟩, n, by rw [hl], ?_, .inr ⟨g, _, rfl, h1, h2, by rw [hl]; exact Nat.le_refl _, h⟩⟩
  rw [hl]
  refine SR.of_row h h2 (fun k u hu => ?_) hl
  have hk : k < n := by have := (List.getElem?_eq_some_iff.1 hu).1; omega
  refine ⟨hk, ?_⟩
  unfold cntL at hu
  rw [List.map_map, List.getElem?_map, List.getElem?_range hk] at hu
  simp at hu
  unfold cntF
  exact hu
/-- the row behind one more node -/
theorem row_hit {w : World} {g n k t : Nat} {ns : List Nd} {x : Nd} (h : w.rowIs g 3 n (cntF ns k)) (hx : ns[k]? = some x) (ht : x.control = (t : Int)) : (w.setCell ⟨g, t, none⟩ (.int .i64 ((cnt ns k t : Nat) + 1 : Int))).rowIs g 3 n (cntF ns (k + 1)) := by
  refine (h.set t (.int .i64 ((cnt ns k t : Nat) + 1 : Int))).congr (fun j hj => ?_)
  show (if j = t then _ else _) = _
  unfold cntF
  by_cases e : j = t
  · subst e
    rw [if_pos rfl, cnt_hit hx ht]
    simp
  · rw [if_neg e, cnt_miss hx ht e]
noncomputable def cntR (cs : List Ctl) (b : Big) : List Int := if bigB cs b = true then cntL b.nodes b.nodes.length cs.length else []
theorem cntR_no {cs : List Ctl} {b : Big} (h : bigB cs b = false) : cntR cs b = [] := by unfold cntR; rw [h]; rfl
theorem cntR_yes {cs : List Ctl} {b : Big} (h : bigB cs b = true) : cntR cs b = cntL b.nodes b.nodes.length cs.length := by unfold cntR; rw [if_pos h]
theorem cntR_len {cs : List Ctl} {b : Big} {n : Nat} (hl : cs.length = n) (hn : n ≤ 1048576) : (cntR cs b).length ≤ 1048576 := by
  cases hq : bigB cs b with
  | false => rw [cntR_no hq]; simp
  | true => rw [cntR_yes hq, cntL_len, hl]; exact hn
theorem ctrl_of_big {cs : List Ctl} {b : Big} {n m : Nat} (h : bigB cs b = true) (hl : cs.length = n) : ∀ (j : Nat) x, b.nodes[j]? = some x → ∃ t : Nat, x.control = t ∧ t < n := fun j x hx => by
  have h1 := ((big_of h).2.2.2.2.1 j x hx).1
  unfold seatB at h1
  simp only [Bool.and_eq_true] at h1
  obtain ⟨k0, k1⟩ := inb_true h1.1
  exact ⟨x.control.toNat, by omega, by omega⟩
theorem sizes8 {cs : List Ctl} {b : Big} (h : bigB cs b = true) : b.nodes.length ≤ 8 := (sizes_of (big_of h).2.1).2.2.1

set_option maxRecDepth 20000 in
set_option maxHeartbeats 3200000 in
theorem l2Count_any (A : Option Addr) (n c : Nat) (v0 v2 v3 v4 v5 : Value) (A1 : Option Addr) (n1 c1 : Nat) (ns : List Nd) (w0 w : World) (h : NdsAt w0 w0.heap.size A1 n1 ns) (hb0 : Below w0.heap.size w0 w) (hn : n ≤ 1048576) (hn1 : n1 ≤ 8) (hk : ∀ (j : Nat) x, ns[j]? = some x → ∃ t : Nat, x.control = t ∧ t < n) :
    Calls Try.prog 104 #[.slice A n c, .agg #[v0, .slice A1 n1 c1, v2, v3, v4, v5]] w fun e w' => ∃ v, e = .returned v ∧ Res w' w.heap.size w'.heap.size 3 v ((cntL ns n1 n).map (Value.int .i64)) ∧ Below w.heap.size w w' := by
  have hmk := fun W => run_make_row' (P := Try.prog) 30 3 (.int .i64 0) 8 Try.underlying30 int_info rfl .i64 .i64 n (by omega) (by omega) W
  have HL := Lib.hid h.1
  have HK := Lib.hid hk
  have HBox := Lib.hid (six_new w v0 (.slice A1 n1 c1) v2 v3 v4 v5 40)
  clear hk
  go_enter Try.func104, Try.ntmps104
  go_wp2
  clear hmk
  go_loopw [6] (fun i wr => ∃ k : Nat, k ≤ n1 ∧ i = .int .i64 k ∧ wr.rowIs (w.heap.size + 1) 3 n (cntF ns k) ∧ Below (w.heap.size + 1) (w.alloc (.cells #[v0, .slice A1 n1 c1, v2, v3, v4, v5] 40)) wr) (fun i _ => n1 - (intOf i).toNat)
  case atStart =>
    refine ⟨0, Nat.zero_le _, rfl, ?_, (Below.refl _ _).alloc (by simp) _⟩
    have := World.rowIs_made (w.alloc (.cells #[v0, .slice A1 n1 c1, v2, v3, v4, v5] 40)) (.int .i64 0) n 3
    rw [World.size_alloc] at this
    exact this.congr (fun _ _ => rfl)
  case round =>
    obtain ⟨k, hk, rfl, hrow, hbel⟩ := hrel
    have hsz := hbel.size
    simp at hsz
    have hbr := HBox.out.of_block (hbel.block w.heap.size (by omega))
    obtain ⟨x0, x1, x2, x3, x4, x5⟩ := row6 hbr
    simp only [six] at x0 x1 x2 x3 x4 x5
    simp at x0 x1 x2 x3 x4 x5
    have hbw : Below w0.heap.size w0 wr := hb0.trans (((Below.refl w0.heap.size w).alloc hb0.size _).trans (hbel.mono (by have := hb0.size; omega)))
    clear hbr
    by_cases hlt : k < n1
    · obtain ⟨b, off, x, rfl, hbb, hx, c0, c1', -⟩ := h.get hlt
      have d0 := (hbw.cell (p := ⟨b, off + k * 3, none⟩) hbb).trans c0
      obtain ⟨t, ht, htn⟩ := HK.out k x hx
      rw [ht] at d0
      have hcell := hrow.cell htn
      have hle := cnt_le ns k t
      have hfz := hrow.frozen t
      have HRow := Lib.hid (row_hit (w := wr) hrow hx ht)
      have HRowD := Lib.hid (row_hit (w := wr.drew) hrow hx ht)
      have HB := Lib.hid hbel
      unfold cntF at hcell
      obtain ⟨m, hm⟩ : ∃ m, cnt ns k t = m := ⟨_, rfl⟩
      rw [hm] at hcell hle HRow HRowD
      clear hx c0 c1' hrow ht hm hbel hbw
      go_wp2_with fail
      go_still_tail 18, (by kernel_rfl)
      change wpList _ _ _ _ _ wr.drew
      go_wp2_with fail
      go_roundw
      case rel => exact ⟨k + 1, by omega, by go_num, HRowD.out, HB.out.drew.setCell (p := ⟨w.heap.size + 1, t, none⟩) (Nat.le_refl _) _⟩
      case measure => simp [intOf]; omega
    · obtain rfl : k = n1 := by omega
      have HR := Lib.hid (res_cnt (lo := w.heap.size) (hi := wr.heap.size) hrow (Nat.le_succ _) hrow.lt)
      clear hrow
      go_wp2_with fail
      go_ret
      exact ⟨_, rfl, HR.out, ((Below.refl w.heap.size w).alloc (Nat.le_refl _) _).trans (hbel.mono (Nat.le_succ _))⟩

set_option maxRecDepth 20000 in
set_option maxHeartbeats 3200000 in
theorem sCnt_any (A : Option Addr) (n c : Nat) (cs : List Ctl) (v : Value) (b : Big) (w : World) (hC : CtlsAt w w.heap.size A n cs) (hv : BigAt w w.heap.size v b) (hn : n ≤ 1048576) (hs : ∀ c ∈ cs, c.name.size ≤ 1048576) (hS : BigS b) (hw : BigW b) :
    Calls Try.prog 51 #[.slice A n c, v] w (ResPost 3 (bigB cs b) ((cntR cs b).map (Value.int .i64)) w) := by
  obtain ⟨A1, n1, c1, A2, n2, c2, A4, n4, c4, A5, n5, c5, rfl, h1, h2, h4, h5⟩ := hv
  have HBox : Hid (BoxAt (w.alloc (.cells #[.int .i64 b.roots, .slice A1 n1 c1, .slice A2 n2 c2, .int .i64 b.edges, .slice A4 n4 c4, .slice A5 n5 c5] 40)) w.heap.size 40 (.int .i64 b.roots) (.slice A1 n1 c1) (.slice A2 n2 c2) (.int .i64 b.edges) (.slice A4 n4 c4) (.slice A5 n5 c5)) := Lib.hid (six_new w _ _ _ _ _ _ _)
  have HB0 := Lib.hid ((Below.refl w.heap.size w).alloc (Nat.le_refl _) (.cells #[.int .i64 b.roots, .slice A1 n1 c1, .slice A2 n2 c2, .int .i64 b.edges, .slice A4 n4 c4, .slice A5 n5 c5] 40))
  obtain ⟨W, hW⟩ : ∃ W, w.alloc (.cells #[.int .i64 b.roots, .slice A1 n1 c1, .slice A2 n2 c2, .int .i64 b.edges, .slice A4 n4 c4, .slice A5 n5 c5] 40) = W := ⟨_, rfl⟩
  have hWz : W.heap.size = w.heap.size + 1 := by rw [← hW]; simp
  rw [hW] at HBox HB0
  have HWq := Lib.hid hW
  have hWs : w.heap.size < W.heap.size := by omega
  have hVW : BigAt W W.heap.size (.agg #[.int .i64 b.roots, .slice A1 n1 c1, .slice A2 n2 c2, .int .i64 b.edges, .slice A4 n4 c4, .slice A5 n5 c5]) b := BigAt.wide (BigAt.below ⟨_, _, _, _, _, _, _, _, _, _, _, _, rfl, h1, h2, h4, h5⟩ HB0.out) HB0.out.size
  clear hW hWz
  have C := l2Good_any A n c cs _ b W ((hC.below HB0.out).wide HB0.out.size) hVW hn hs hS hw
  obtain ⟨x0, x1, x2, x3, x4, x5⟩ := HBox.out.get
  have l1 := h1.1
  have lc := hC.1
  clear hS hw hVW hs
  cases hq : bigB cs b with
  | false =>
    rw [hq] at C
    have HR := Lib.hid (cntR_no hq)
    clear hq
    go_enter Try.func51, Try.ntmps51
    go_wp2_with fail
    rw [HWq.out]
    go_wp2_with fail
    refine C.mono ?_
    rintro e w1 ⟨rfl, hb⟩
    have hb1 := HB0.out.trans (hb.mono HB0.out.size)
    clear hb C x0 x1 x2 x3 x4 x5
    go_wp2_with fail
    refine bodyPost_ret (results_tmp2 rfl _ _ _) rfl ?_
    exact ⟨.slice (some ⟨w1.heap.size, 0, none⟩) 0 0, rfl, by rw [HR.out]; exact Res.empty hb1.size, hb1.alloc hb1.size _⟩
  | true =>
    rw [hq] at C
    have HK := Lib.hid (ctrl_of_big (m := 0) hq lc)
    have hsz := sizes8 hq
    have hR2 := cntR_yes hq
    rw [l1, lc] at hR2
    rw [l1] at hsz
    have HR := Lib.hid hR2
    clear hq hR2
    go_enter Try.func51, Try.ntmps51
    go_wp2_with fail
    rw [HWq.out]
    go_wp2_with fail
    refine C.mono ?_
    rintro e w1 ⟨rfl, hb⟩
    have hb1 := HB0.out.trans (hb.mono HB0.out.size)
    have HBx1 := HBox.out.below hb hWs
    clear hb C x0 x1 x2 x3 x4 x5
    obtain ⟨x0, x1, x2, x3, x4, x5⟩ := HBx1.get
    go_wp2_with fail
    refine (l2Count_any A n c _ _ _ _ _ A1 n1 c1 b.nodes w w1 h1 hb1 hn hsz HK.out).mono ?_
    rintro e w2 ⟨v2, rfl, hR, hb2⟩
    have hb02 := hb1.trans (hb2.mono hb1.size)
    have HO := Lib.hid (hR.wide hb1.size (Nat.le_refl _))
    clear hR hb2 x0 x1 x2 x3 x4 x5
    go_wp2_with fail
    refine bodyPost_ret (results_tmp2 rfl _ _ _) rfl ?_
    exact ⟨v2, rfl, by rw [HR.out]; exact HO.out, hb02⟩

set_option maxRecDepth 20000 in
set_option maxHeartbeats 3200000 in
theorem iCnt_any (A : Option Addr) (n c : Nat) (cs : List Ctl) (v : Value) (b : Big) (w : World) (hC : CtlsAt w w.heap.size A n cs) (hv : BigAt w w.heap.size v b) (hn : n ≤ 1048576) (hs : ∀ c ∈ cs, c.name.size ≤ 1048576) (hS : BigS b) (hw : BigW b) :
    Calls Try.prog 52 #[.slice A n c, v] w (ResPost 3 (bigB cs b) ((cntR cs b).map (Value.int .i64)) w) := by
  obtain ⟨A1, n1, c1, A2, n2, c2, A4, n4, c4, A5, n5, c5, rfl, h1, h2, h4, h5⟩ := hv
  have HBox : Hid (BoxAt (w.alloc (.cells #[.int .i64 b.roots, .slice A1 n1 c1, .slice A2 n2 c2, .int .i64 b.edges, .slice A4 n4 c4, .slice A5 n5 c5] 40)) w.heap.size 40 (.int .i64 b.roots) (.slice A1 n1 c1) (.slice A2 n2 c2) (.int .i64 b.edges) (.slice A4 n4 c4) (.slice A5 n5 c5)) := Lib.hid (six_new w _ _ _ _ _ _ _)
  have HB0 := Lib.hid ((Below.refl w.heap.size w).alloc (Nat.le_refl _) (.cells #[.int .i64 b.roots, .slice A1 n1 c1, .slice A2 n2 c2, .int .i64 b.edges, .slice A4 n4 c4, .slice A5 n5 c5] 40))
  obtain ⟨W, hW⟩ : ∃ W, w.alloc (.cells #[.int .i64 b.roots, .slice A1 n1 c1, .slice A2 n2 c2, .int .i64 b.edges, .slice A4 n4 c4, .slice A5 n5 c5] 40) = W := ⟨_, rfl⟩
  have hWz : W.heap.size = w.heap.size + 1 := by rw [← hW]; simp
  rw [hW] at HBox HB0
  have HWq := Lib.hid hW
  have hWs : w.heap.size < W.heap.size := by omega
  have hVW : BigAt W W.heap.size (.agg #[.int .i64 b.roots, .slice A1 n1 c1, .slice A2 n2 c2, .int .i64 b.edges, .slice A4 n4 c4, .slice A5 n5 c5]) b := BigAt.wide (BigAt.below ⟨_, _, _, _, _, _, _, _, _, _, _, _, rfl, h1, h2, h4, h5⟩ HB0.out) HB0.out.size
  clear hW hWz
  have C := isBig_any A n c cs _ b W ((hC.below HB0.out).wide HB0.out.size) hVW hn hs hS hw
  obtain ⟨x0, x1, x2, x3, x4, x5⟩ := HBox.out.get
  have l1 := h1.1
  have lc := hC.1
  clear hS hw hVW hs
  cases hq : bigB cs b with
  | false =>
    rw [hq] at C
    have HR := Lib.hid (cntR_no hq)
    clear hq
    go_enter Try.func52, Try.ntmps52
    go_wp2_with fail
    rw [HWq.out]
    go_wp2_with fail
    refine C.mono ?_
    rintro e w1 ⟨rfl, hb⟩
    have hb1 := HB0.out.trans (hb.mono HB0.out.size)
    clear hb C x0 x1 x2 x3 x4 x5
    go_wp2_with fail
    refine bodyPost_ret (results_tmp2 rfl _ _ _) rfl ?_
    exact ⟨.slice none 0 0, rfl, by rw [HR.out]; exact Res.nil, hb1⟩
  | true =>
    rw [hq] at C
    have HK := Lib.hid (ctrl_of_big (m := 0) hq lc)
    have hsz := sizes8 hq
    have hR2 := cntR_yes hq
    rw [l1, lc] at hR2
    rw [l1] at hsz
    have HR := Lib.hid hR2
    clear hq hR2
    have hmk := fun W => run_make_row' (P := Try.prog) 30 3 (.int .i64 0) 8 Try.underlying30 int_info rfl .i64 .i64 n (by omega) (by omega) W
    go_enter Try.func52, Try.ntmps52
    go_wp2_with fail
    rw [HWq.out]
    go_wp2_with fail
    refine C.mono ?_
    rintro e w1 ⟨rfl, hb⟩
    have hb1 := HB0.out.trans (hb.mono HB0.out.size)
    have hs1 : w.heap.size < w1.heap.size := Nat.lt_of_lt_of_le hWs hb.size
    have HBx1 := HBox.out.below hb hWs
    clear hb C x0 x1 x2 x3 x4 x5
    have HM := Lib.hid (show (w1.alloc (.cells (madeCells #[.int .i64 0] n) 3)).rowIs w1.heap.size 3 n (cntF b.nodes 0) from (World.rowIs_made w1 (.int .i64 0) n 3).congr (fun _ _ => rfl))
    have hbm := (Below.refl w1.heap.size w1).alloc (Nat.le_refl _) (.cells (madeCells #[.int .i64 0] n) 3)
    have HBx2 := Lib.hid (HBx1.below hbm hs1)
    obtain ⟨x0, x1, x2, x3, x4, x5⟩ := HBx1.get
    go_wp2
    clear hmk x0 x1 x2 x3 x4 x5
    obtain ⟨w2, hw2⟩ : ∃ w2, w1.alloc (.cells (madeCells #[.int .i64 0] n) 3) = w2 := ⟨_, rfl⟩
    rw [hw2] at hbm HM HBx2 ⊢
    have hg2 : w1.heap.size < w2.heap.size := by rw [← hw2]; simp
    have hb2 := hb1.trans (hbm.mono hb1.size)
    clear hw2
    go_loopw [19] (fun i wr => ∃ k : Nat, k ≤ n1 ∧ i = .int .i64 k ∧ wr.rowIs w1.heap.size 3 n (cntF b.nodes k) ∧ Below w1.heap.size w1 wr) (fun i _ => n1 - (intOf i).toNat)
    case atStart => exact ⟨0, Nat.zero_le _, rfl, HM.out, hbm⟩
    case round =>
      obtain ⟨k, hk, rfl, hrow, hbel⟩ := hrel
      have hbw := hb1.trans (hbel.mono hb1.size)
      have hsz := hbel.size
      by_cases hlt : k < n1
      · obtain ⟨b1, off, x, rfl, hbb, hx, c0, c1', L, mL, cL, c2', -⟩ := h1.get hlt
        have d0 := (hbw.cell (p := ⟨b1, off + k * 3, none⟩) hbb).trans c0
        have d1 := (hbw.cell (p := ⟨b1, off + k * 3 + 1, none⟩) hbb).trans c1'
        have d2 := (hbw.cell (p := ⟨b1, off + k * 3 + 2, none⟩) hbb).trans c2'
        obtain ⟨t, ht, htn⟩ := HK.out k x hx
        rw [ht] at d0
        have hcell := hrow.cell htn
        have hle := cnt_le b.nodes k t
        have hfz := hrow.frozen t
        have hgl := hrow.lt
        obtain ⟨p, hp⟩ : ∃ p, x.parent = p := ⟨_, rfl⟩
        rw [hp] at d1
        have HRow := Lib.hid ((row_hit (w := wr) hrow hx ht).alloc (.cells #[.int .i64 (t : Nat), .int .i64 p, .slice L mL cL] 96))
        have HB := Lib.hid hbel
        unfold cntF at hcell
        obtain ⟨m, hm⟩ : ∃ m, cnt b.nodes k t = m := ⟨_, rfl⟩
        rw [hm] at hcell hle HRow
        clear hx c0 c1' c2' hrow ht hm hbel hbw hp
        go_wp2_with fail
        go_roundw
        case rel => exact ⟨k + 1, by omega, by go_num, HRow.out, (HB.out.setCell (p := ⟨w1.heap.size, t, none⟩) (Nat.le_refl _) _).alloc (by simp [World.setCell]; omega) _⟩
        case measure => simp [intOf]; omega
      · obtain rfl : k = n1 := by omega
        have HR3 := Lib.hid (res_cnt (lo := w.heap.size) (hi := wr.heap.size) hrow hb1.size hrow.lt)
        clear hrow
        go_wp2_with fail
        refine bodyPost_ret (results_tmp2 rfl _ _ _) rfl ?_
        exact ⟨_, rfl, by rw [HR.out]; exact HR3.out, hbw⟩
end Go.Proofs.Ytdejbacfgcahlaa.cnt

