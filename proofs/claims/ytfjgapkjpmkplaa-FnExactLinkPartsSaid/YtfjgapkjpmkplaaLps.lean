/- LinkParts: which nodes are in one part; spec's way. -/
import Derived.Test.YtfjgapkjpmkplaaLpx
import Derived.Test.YtfjgapkjpmkplaaQf
import Derived.StillTailTactics
import Derived.Test.YtfjgapkjpmkplaaQe
namespace Go.Proofs.Ytfjgapkjpmkplaa.lps
open kit bg opn strs only hb sg sig isig un gd inn ht hi cf im ib rs lpx abv has idl
open Go.RowKit
set_option linter.unusedVariables false
set_option linter.unusedSimpArgs false

/-- the links of a node -/
def lks (ns : List Nd) (x : Nat) : List Int := ((ns[x]?).map (·.links)).getD []
theorem lks_some {ns : List Nd} {x : Nat} {nd : Nd} (h : ns[x]? = some nd) : lks ns x = nd.links := by unfold lks; rw [h]; rfl
def meetB (ns : List Nd) (x y : Nat) : Bool := (lks ns x).any (fun l => decide (l ∈ lks ns y))
def Meet (ns : List Nd) (x y : Nat) : Prop := x < ns.length ∧ y < ns.length ∧ meetB ns x y = true
theorem meet_mk {ns : List Nd} {x y : Nat} {l : Int} (hx : x < ns.length) (hy : y < ns.length) (h1 : l ∈ lks ns x) (h2 : l ∈ lks ns y) : Meet ns x y := ⟨hx, hy, List.any_eq_true.2 ⟨l, h1, decide_eq_true h2⟩⟩
theorem meet_get {ns : List Nd} {x y : Nat} (h : Meet ns x y) : ∃ l, l ∈ lks ns x ∧ l ∈ lks ns y := by
  obtain ⟨l, h1, h2⟩ := List.any_eq_true.1 h.2.2
  exact ⟨l, h1, of_decide_eq_true h2⟩
theorem meet_symm (ns : List Nd) : ∀ a b, Meet ns a b → Meet ns b a := fun a b h => by
  obtain ⟨l, h1, h2⟩ := meet_get h
  exact meet_mk h.2.1 h.1 h2 h1
theorem meet_lt (ns : List Nd) : ∀ a b, Meet ns a b → a < ns.length ∧ b < ns.length := fun a b h => ⟨h.1, h.2.1⟩
/-- the least node of each part -/
def IsParts (ns : List Nd) (o : Nat → Nat) : Prop := Part (Meet ns) ns.length o ∧ ∀ x y, Meet ns x y → o x = o y
open Classical in
noncomputable def partF (ns : List Nd) : Nat → Nat := if h : ∃ o, IsParts ns o then Classical.choose h else fun x => x
theorem partF_eq {ns : List Nd} {o : Nat → Nat} (h : IsParts ns o) (x : Nat) (hx : x < ns.length) : o x = partF ns x := by
  have hp : IsParts ns (partF ns) := by
    unfold partF
    rw [dif_pos ⟨o, h⟩]
    exact Classical.choose_spec (⟨o, h⟩ : ∃ o, IsParts ns o)
  exact part_uniq (meet_symm ns) h.1 h.2 hp.1 hp.2 x hx
def numL (o : Nat → Nat) (n : Nat) : List Int := (List.range n).map (fun k => (o k : Int))
theorem numL_len (o : Nat → Nat) (n : Nat) : (numL o n).length = n := by simp [numL]
theorem numL_get {o : Nat → Nat} {n k : Nat} (h : k < n) : (numL o n)[k]? = some (o k : Int) := by
  unfold numL
  rw [List.getElem?_map, List.getElem?_range h]
  rfl
theorem numL_congr {o s : Nat → Nat} {n : Nat} (h : ∀ x, x < n → o x = s x) : numL o n = numL s n := by
  unfold numL
  refine List.map_congr_left (fun x hx => ?_)
  rw [h x (List.mem_range.1 hx)]
theorem numL_succ (o : Nat → Nat) (n : Nat) : numL o (n + 1) = numL o n ++ [(o n : Int)] := by
  unfold numL
  rw [List.range_succ, List.map_append]
  rfl
noncomputable def lpR (cs : List Ctl) (b : Big) : List Int := if bigB cs b = true then numL (partF b.nodes) b.nodes.length else []
theorem lpR_no {cs : List Ctl} {b : Big} (h : bigB cs b = false) : lpR cs b = [] := by unfold lpR; rw [h]; rfl
theorem lpR_yes {cs : List Ctl} {b : Big} {o : Nat → Nat} (h : bigB cs b = true) (ho : IsParts b.nodes o) : lpR cs b = numL o b.nodes.length := by
  unfold lpR
  rw [if_pos h]
  exact (numL_congr (fun x hx => partF_eq ho x hx)).symm
theorem lpR_len {cs : List Ctl} {b : Big} (hs : BigS b) : (lpR cs b).length ≤ 1048576 := by
  unfold lpR
  split
  · rw [numL_len]; exact hs.1
  · simp
def setO (o : Nat → Nat) (i m : Nat) : Nat → Nat := fun x => if x = i then m else o x
theorem setO_same {o : Nat → Nat} {i m : Nat} : setO o i m i = m := if_pos rfl
theorem setO_other {o : Nat → Nat} {i m x : Nat} (h : x ≠ i) : setO o i m x = o x := if_neg h
/-- a row that has these numbers -/
def NumRow (w : World) (g c n : Nat) (o : Nat → Nat) : Prop := ∃ f, w.rowIs g 3 c f ∧ ∀ k, k < n → f k = .int .i64 (o k : Nat)
theorem NumRow.set {w : World} {g c n i m : Nat} {o : Nat → Nat} (h : NumRow w g c n o) : NumRow (w.setCell ⟨g, i, none⟩ (.int .i64 (m : Nat))) g c n (setO o i m) := by
  obtain ⟨f, hr, hf⟩ := h
  refine ⟨_, hr.set i _, fun k hk => ?_⟩
  show (if k = i then _ else _) = _
  unfold setO
  by_cases e : k = i
  · rw [if_pos e, if_pos e]
  · rw [if_neg e, if_neg e]; exact hf k hk
theorem NumRow.on {w w' : World} {g c n : Nat} {o : Nat → Nat} (h : NumRow w g c n o) (hb : Below w.heap.size w w') : NumRow w' g c n o := by
  obtain ⟨f, hr, hf⟩ := h
  exact ⟨f, hr.of_block (hb.block g hr.lt), hf⟩
theorem NumRow.drew {w : World} {g c n : Nat} {o : Nat → Nat} (h : NumRow w g c n o) : NumRow w.drew g c n o := h.on (Below.refl _ _).drew
theorem NumRow.lt {w : World} {g c n : Nat} {o : Nat → Nat} (h : NumRow w g c n o) : g < w.heap.size := by obtain ⟨f, hr, -⟩ := h; exact hr.lt
theorem NumRow.cell {w : World} {g c n k : Nat} {o : Nat → Nat} (h : NumRow w g c n o) (hk : k < n) (hc : n ≤ c) : w.cell? ⟨g, k, none⟩ = some (.int .i64 (o k : Nat)) := by
  obtain ⟨f, hr, hf⟩ := h
  rw [hr.cell (show k < c by omega), hf k hk]
theorem NumRow.frozen {w : World} {g c n k : Nat} {o : Nat → Nat} (h : NumRow w g c n o) : w.frozen? ⟨g, k, none⟩ = false := by
  obtain ⟨f, hr, hf⟩ := h
  exact hr.frozen k
theorem res_num {w : World} {g c n lo hi : Nat} {o : Nat → Nat} (h : NumRow w g c n o) (hc : n ≤ c) (h1 : lo ≤ g) (h2 : g < hi) : Res w lo hi 3 (.slice (some ⟨g, 0, none⟩) n c) ((numL o n).map (Value.int .i64)) := by
  obtain ⟨f, hr, hf⟩ := h
  have hl : ((numL o n).map (Value.int .i64)).length = n := by rw [List.length_map, numL_len]
  refine ⟨some ⟨g, 0, none⟩, c, by rw [hl], ?_, .inr ⟨g, f, rfl, h1, h2, by rw [hl]; exact hc, hr⟩⟩
  rw [hl]
  refine SR.of_row2 hr hc h2 (fun k u hu => ?_) hl
  have hk : k < n := by have := (List.getElem?_eq_some_iff.1 hu).1; omega
  rw [List.getElem?_map, numL_get hk] at hu
  injection hu with hu
  exact ⟨hk, by rw [← hu, hf k hk]⟩
theorem numRow_of {w : World} {B n : Nat} {o : Nat → Nat} {v : Value} (h : Owns w B 3 v ((numL o n).map (Value.int .i64))) : ∃ g c, v = .slice (some ⟨g, 0, none⟩) n c ∧ B ≤ g ∧ n ≤ c ∧ NumRow w g c n o := by
  obtain ⟨g, c, f, rfl, hb, hc, hr, hf⟩ := h.row
  rw [List.length_map, numL_len] at hc ⊢
  exact ⟨g, c, rfl, hb, hc, f, hr, fun k hk => hf k _ (by rw [List.getElem?_map, numL_get hk]; rfl)⟩
/-- one store of a round -/
theorem part_set {ns : List Nd} {o : Nat → Nat} {i k : Nat} (h : Part (Meet ns) ns.length o) (hm : Meet ns i k) (hlt : o k < o i) : Part (Meet ns) ns.length (setO o i (o k)) := by
  refine ⟨fun x hx => ?_, fun x hx => ?_⟩
  · by_cases e : x = i
    · subst e; rw [setO_same]; have := h.le x hx; omega
    · rw [setO_other e]; exact h.le x hx
  · by_cases e : x = i
    · subst e; rw [setO_same]; exact (Conn.one hm).trans (h.conn k hm.2.1)
    · rw [setO_other e]; exact h.conn x hx

set_option maxRecDepth 20000 in
set_option maxHeartbeats 1600000 in
theorem meet_any (v0 v2 v3 v4 v5 : Value) (A1 : Option Addr) (n1 c1 : Nat) (ns : List Nd) (x y : Nat) (w0 w : World) (h : NdsAt w0 w0.heap.size A1 n1 ns) (hb0 : Below w0.heap.size w0 w) (hlk : ∀ x ∈ ns, x.links.length ≤ 1048576) (hn : n1 ≤ 8) (hx : x < n1) (hy : y < n1) :
    Calls Try.prog 59 #[.agg #[v0, .slice A1 n1 c1, v2, v3, v4, v5], .int .i64 (x : Nat), .int .i64 (y : Nat)] w (Post (meetB ns x y) w) := by
  have HBox := Lib.hid (six_new w v0 (.slice A1 n1 c1) v2 v3 v4 v5 39)
  have hb1 := (Below.refl w.heap.size w).alloc (Nat.le_refl _) (.cells #[v0, .slice A1 n1 c1, v2, v3, v4, v5] 39)
  have HBw := Lib.hid hb1
  have hbW := hb0.trans (hb1.mono hb0.size)
  obtain ⟨bx, ox, X, rfl, hbx, hX, ex0, ex1, LA, ln, lc, ex2, hXi⟩ := h.get hx
  obtain ⟨by_, oy, Y, e, hby, hY, ey0, ey1, MA, mn, mc, ey2, hYi⟩ := h.get hy
  simp only [Option.some.injEq, Addr.mk.injEq, and_true] at e
  obtain ⟨rfl, rfl⟩ := e
  have q1 : ln ≤ 1048576 := by have := hlk X (List.mem_of_getElem? hX); have := hXi.len; omega
  have q2 : mn ≤ 1048576 := by have := hlk Y (List.mem_of_getElem? hY); have := hYi.len; omega
  have HM : Hid (meetB ns x y = X.links.any (fun l => decide (l ∈ Y.links))) := Lib.hid (by unfold meetB; rw [lks_some hX, lks_some hY])
  obtain ⟨W, hW⟩ : ∃ W, w.alloc (.cells #[v0, .slice (some ⟨bx, ox, none⟩) n1 c1, v2, v3, v4, v5] 39) = W := ⟨_, rfl⟩
  rw [hW] at HBox hbW HBw
  have HWq := Lib.hid hW
  have r2 := (hbW.cell (p := ⟨bx, ox + x * 3 + 2, none⟩) hbx).trans ex2
  have s2 := (hbW.cell (p := ⟨bx, ox + y * 3 + 2, none⟩) hbx).trans ey2
  have HXi := Lib.hid (hXi.below hbW)
  have HYi := Lib.hid (hYi.below hbW)
  have HXl := Lib.hid hXi.len
  obtain ⟨x0, x1, x2, x3, x4, x5⟩ := row6 HBox.out
  simp only [six] at x0 x1 x2 x3 x4 x5
  simp at x0 x1 x2 x3 x4 x5
  rw [HM.out]
  obtain ⟨g, hg⟩ : ∃ g, X.links.any (fun l => decide (l ∈ Y.links)) = g := ⟨_, rfl⟩
  have HG := Lib.hid hg
  rw [hg]
  clear hg hW hX hY ex0 ex1 ex2 ey0 ey1 ey2 hXi hYi h hlk hbW hb0 hb1 x0 x2 x3 x4 x5
  go_enter Try.func59, Try.ntmps59
  go_wp2_with fail
  rw [HWq.out]
  go_loopw [7] (fun i wr => ∃ k : Nat, k ≤ ln ∧ i = .int .i64 k ∧ (∀ (j : Nat) l, j < k → X.links[j]? = some l → decide (l ∈ Y.links) = false) ∧ Dr W wr) (fun i _ => ln - (intOf i).toNat)
  case atStart => exact ⟨0, Nat.zero_le _, rfl, fun j x hj => absurd hj (Nat.not_lt_zero j), Dr.refl _⟩
  case round =>
    obtain ⟨k, hk, rfl, hall, hdr⟩ := hrel
    have HA := Lib.hid hall
    clear hall
    have y1 := (hdr.cell ⟨w.heap.size, 1, none⟩).trans x1
    have t2 := (hdr.cell ⟨bx, ox + x * 3 + 2, none⟩).trans r2
    have u2 := (hdr.cell ⟨bx, ox + y * 3 + 2, none⟩).trans s2
    by_cases hlt : k < ln
    · obtain ⟨b1, o1, z, rfl, hb1, hz, cz⟩ := HXi.out.get hlt
      have ez := (hdr.cell ⟨b1, o1 + k, none⟩).trans cz
      have HZ := Lib.hid hz
      have CH := fun Y' (hY' : Dr wr Y') => l1Has_any MA mn mc Y.links z Y' _ (HYi.out.below ((hdr.trans hY').below _)) q2
      clear hz cz
      obtain ⟨q, hq⟩ : ∃ q, hasB Y.links z = q := ⟨_, rfl⟩
      have HQ := Lib.hid hq
      rw [hq] at CH
      have HCH := Lib.hid CH
      clear hq CH
      cases q with
      | true =>
        have HN : Hid (g = true) := Lib.hid (by rw [← HG.out]; exact List.any_eq_true.2 ⟨z, List.mem_of_getElem? HZ.out, HQ.out⟩)
        go_wp2_with fail
        go_quiet ((go_at_call 114; exact (HCH.out _ (Dr.more (Dr.refl _) _)).mono (fun e w'' h => ⟨h.1, _, h.2.symm⟩)))
        go_wp2_with fail
        go_ret
        exact ⟨by rw [HN.out]; rfl, HBw.out.trans ((hdr.more _).below _)⟩
      | false =>
        go_wp2_with fail
        go_quiet ((go_at_call 114; exact (HCH.out _ (Dr.more (Dr.refl _) _)).mono (fun e w'' h => ⟨h.1, _, h.2.symm⟩)))
        go_wp2_with fail
        go_roundw
        case rel => exact ⟨k + 1, by omega, by go_num, fun j l hj hl => by
          by_cases e : j = k
          · subst e; rw [HZ.out] at hl; injection hl with e1; subst e1; exact HQ.out
          · exact HA.out j l (by omega) hl, hdr.more _⟩
        case measure => simp [intOf]; omega
    · obtain rfl : k = ln := by omega
      have HN : Hid (g = false) := Lib.hid (by
        rw [← HG.out]
        refine List.any_eq_false.2 (fun l hl => ?_)
        obtain ⟨j, hj⟩ := List.getElem?_of_mem hl
        have := HA.out j l (by have := (List.getElem?_eq_some_iff.1 hj).1; have := HXl.out; omega) hj
        rw [this]; simp)
      go_wp2_with fail
      go_ret
      exact ⟨by rw [HN.out]; rfl, HBw.out.trans (hdr.below _)⟩

theorem set_le {o s : Nat → Nat} {n i k : Nat} (h : ∀ x, x < n → o x ≤ s x) (hlt : o k < o i) : ∀ x, x < n → setO o i (o k) x ≤ s x := fun x hx => by
  have h1 := h x hx
  by_cases e : x = i
  · subst e; rw [setO_same]; omega
  · rw [setO_other e]; exact h1
theorem no_len {cs : List Ctl} {b : Big} (h : bigB cs b = false) : ((lpR cs b).map (Value.int .i64)) = [] := by rw [lpR_no h]; rfl
theorem id_far (ns : List Nd) : Far (Meet ns) ns.length 0 (fun x => x) := far_zero
set_option maxRecDepth 20000 in
set_option maxHeartbeats 12800000 in
theorem sLp_any (A : Option Addr) (n c : Nat) (cs : List Ctl) (v : Value) (b : Big) (w : World) (hC : CtlsAt w w.heap.size A n cs) (hv : BigAt w w.heap.size v b) (hn : n ≤ 1048576) (hs : ∀ c ∈ cs, c.name.size ≤ 1048576) (hS : BigS b) (hw : BigW b) :
    Calls Try.prog 22 #[.slice A n c, v] w (ResPost 3 (bigB cs b) ((lpR cs b).map (Value.int .i64)) w) := by
  obtain ⟨i0, hi, hz0, hz1, hz2⟩ := info_parts int_info
  have HI := Lib.hid (And.intro hi (And.intro hz0 (And.intro hz1 hz2)))
  have HG := Lib.hid (fun (Y : World) (hY : Below w.heap.size w Y) => l2Good_any A n c cs v b Y ((hC.below hY).wide hY.size) ((hv.below hY).wide hY.size) hn hs hS hw)
  obtain ⟨A1, n1, c1, A2, n2, c2, A4, n4, c4, A5, n5, c5, rfl, h1, h2, h4, h5⟩ := hv
  have HBox : BoxAt (w.alloc (.cells #[.int .i64 b.roots, .slice A1 n1 c1, .slice A2 n2 c2, .int .i64 b.edges, .slice A4 n4 c4, .slice A5 n5 c5] 39)) w.heap.size 39 (.int .i64 b.roots) (.slice A1 n1 c1) (.slice A2 n2 c2) (.int .i64 b.edges) (.slice A4 n4 c4) (.slice A5 n5 c5) := six_new w _ _ _ _ _ _ _
  have hB := (Below.refl w.heap.size w).alloc (Nat.le_refl _) (.cells #[.int .i64 b.roots, .slice A1 n1 c1, .slice A2 n2 c2, .int .i64 b.edges, .slice A4 n4 c4, .slice A5 n5 c5] 39)
  obtain ⟨W, hW⟩ : ∃ W, w.alloc (.cells #[.int .i64 b.roots, .slice A1 n1 c1, .slice A2 n2 c2, .int .i64 b.edges, .slice A4 n4 c4, .slice A5 n5 c5] 39) = W := ⟨_, rfl⟩
  have hWz : W.heap.size = w.heap.size + 1 := by rw [← hW]; simp
  have hWs : w.heap.size < W.heap.size := by omega
  rw [hW] at HBox hB
  have HBox := Lib.hid HBox
  have HB := Lib.hid hB
  have HWq := Lib.hid hW
  have HWz := Lib.hid hWz
  have hl1 := h1.1
  have HL := Lib.hid hl1
  have HN := Lib.hid h1
  have HLk := Lib.hid hS.2.1
  have hb1 := (Below.refl W.heap.size W).alloc (Nat.le_refl _) (.cells #[] 3)
  have HB1 := Lib.hid hb1
  have hre : Res (W.alloc (.cells #[] 3)) (w.heap.size + 1) (W.alloc (.cells #[] 3)).heap.size 3 (.slice (some ⟨w.heap.size + 1, 0, none⟩) 0 0) [] := by rw [← hWz]; exact Res.empty (Nat.le_refl _)
  have HRe := Lib.hid hre
  have HOw : Hid (Owns (W.alloc (.cells #[] 3)) (w.heap.size + 1) 3 (.slice (some ⟨w.heap.size + 1, 0, none⟩) 0 0) []) := Lib.hid ⟨by
    rw [← hWz]
    have := World.ownsRow_made (base := W.heap.size) (e := 3) (size := 1) W #[] 0 (by simp) (by unfold maxLen; omega) (by simp)
    simpa using this, by simp⟩
  obtain ⟨q, hq⟩ : ∃ q, bigB cs b = q := ⟨_, rfl⟩
  have HQ := Lib.hid hq
  rw [hq] at HG ⊢
  clear hq hi hz0 hz1 hz2 hC hn hs hS hw hW hB hb1 hre h1 h2 h4 h5 hWz
  obtain ⟨x0, x1, x2, x3, x4, x5⟩ := HBox.out.get
  go_enter Try.func22, Try.ntmps22
  go_wp2_with fail
  rw [HWq.out]
  go_wp2_with fail
  refine (HG.out _ (HB.out.trans (HB1.out.mono HB.out.size))).mono ?_
  rintro e w1 ⟨rfl, hb⟩
  have hk1 := HB1.out.trans (hb.mono (by simp))
  clear x0 x1 x2 x3 x4 x5
  cases q with
  | false =>
    have hr := (HRe.out.below hb (Nat.le_refl _)).wide (Nat.le_succ _) hb.size
    clear hb
    go_wp2_with fail
    refine bodyPost_ret (results_tmp2 rfl _ _ _) rfl ?_
    exact ⟨_, rfl, by rw [no_len HQ.out]; exact hr, HB.out.trans (hk1.mono HB.out.size)⟩
  | true =>
    have h8 := size_nodes HQ.out
    rw [hl1] at h8
    have hown1 : Owns w1 (w.heap.size + 1) 3 (.slice (some ⟨w.heap.size + 1, 0, none⟩) 0 0) ((numL (fun x => x) 0).map (Value.int .i64)) := Owns.on HOw.out hb
    have HO1 := Lib.hid hown1
    clear hb hown1
    obtain ⟨x0, x1, x2, x3, x4, x5⟩ := (HBox.out.on hk1).get
    go_wp2_with fail
    clear x0 x1 x2 x3 x4 x5
    go_loopw [6, 8] (fun v i wr => ∃ k : Nat, k ≤ n1 ∧ i = .int .i64 k ∧ Owns wr (w.heap.size + 1) 3 v ((numL (fun x => x) k).map (Value.int .i64)) ∧ Below W.heap.size W wr) (fun _ i _ => n1 - (intOf i).toNat)
    case atStart => exact ⟨0, Nat.zero_le _, rfl, HO1.out, hk1⟩
    case round =>
      obtain ⟨k, hk, rfl, ⟨hown, hnn⟩, hbel⟩ := hrel
      have hsz := hbel.size
      by_cases hlt : k < n1
      · have hln : ((numL (fun x => x) k).map (Value.int .i64)).length = k := by rw [List.length_map, numL_len]
        rw [hln] at hown
        have HNn := Lib.hid hnn
        have HBel := Lib.hid hbel
        obtain ⟨D, hD⟩ : ∃ D, (numL (fun x => x) k).map (Value.int .i64) = D := ⟨_, rfl⟩
        rw [hD] at hown
        have HD := Lib.hid hD
        clear hln hnn hD
        go_wp2_with (at_builtin; refine wpList_append_own _ rfl _ _ 24 rfl (w.heap.size + 1) 3 i0 (.int .i64 0) 1 8 Try.underlying24 HI.out.1 HI.out.2.1 HI.out.2.2.1 HI.out.2.2.2 rfl (by decide) _ _ _ rfl (hown.alloc _) ⟨wr.heap.size, 0, none⟩ 1 1 [.int .i64 k] rfl rfl (cell_one_new _ _ _) (fun x hx => by simp at hx; subst hx; rfl) (by unfold maxLen; omega) (by omega) (by have := HWz.out; simp; omega) ?_; intro v1 w1 hown1 hgrow1 hnil1)
        have hb1 := Lib.hid ((HBel.out.alloc hsz (.cells #[.int .i64 k] 3)).grown hgrow1 (by simp; omega) (fun j hj => by have := (hown.lt j hj).1; have := HWz.out; omega))
        have HOwn := Lib.hid hown1
        have HN1 : Hid (v1 ≠ .slice none 0 0) := fun h => HNn.out (hnil1.1 h).1
        clear hown1 hgrow1 hnil1 hown hbel
        go_wp2_with fail
        go_roundw
        case rel => exact ⟨k + 1, by omega, by go_num, ⟨by
          have := HOwn.out
          rw [numL_succ, List.map_append, HD.out, List.map_cons, List.map_nil, List.length_append, List.length_singleton, ← HD.out, List.length_map, numL_len]
          rw [← HD.out] at this
          exact this, HN1.out⟩, hb1.out⟩
        case measure => simp [intOf]; omega
      · obtain rfl : k = n1 := by omega
        obtain ⟨g, cp, rfl, hg, hcp, hrow⟩ := numRow_of ⟨hown, hnn⟩
        have HBel := Lib.hid hbel
        have HRow := Lib.hid hrow
        clear hown hnn hbel hrow
        rename World => wq
        go_wp2_with fail
        go_loopw [9] (fun i wr => ∃ t : Nat, t ≤ k ∧ i = .int .i64 t ∧ (∃ o, NumRow wr g cp k o ∧ Part (Meet b.nodes) b.nodes.length o ∧ Far (Meet b.nodes) b.nodes.length t o) ∧ Below W.heap.size W wr) (fun i _ => k - (intOf i).toNat)
        case atStart => exact ⟨0, Nat.zero_le _, rfl, ⟨_, HRow.out, Part.zero, far_zero⟩, HBel.out⟩
        case round =>
          obtain ⟨t, ht, rfl, ⟨s, hrow, hpart, hfar⟩, hbel⟩ := hrel
          have HRs := Lib.hid hrow
          have HPs := Lib.hid hpart
          have HFs := Lib.hid hfar
          have HBs := Lib.hid hbel
          clear hrow hpart hfar hbel
          by_cases htl : t < k
          · rename World => wt
            go_wp2_with fail
            go_loopw [10] (fun i wr => ∃ x : Nat, x ≤ k ∧ i = .int .i64 x ∧ (∃ o, NumRow wr g cp k o ∧ Part (Meet b.nodes) b.nodes.length o ∧ (∀ z, z < b.nodes.length → o z ≤ s z) ∧ (∀ z y, z < x → Meet b.nodes z y → o z ≤ s y)) ∧ Below W.heap.size W wr) (fun i _ => k - (intOf i).toNat)
            case atStart => exact ⟨0, Nat.zero_le _, rfl, ⟨_, HRs.out, HPs.out, fun _ _ => Nat.le_refl _, fun z y h => absurd h (Nat.not_lt_zero z)⟩, HBs.out⟩
            case round =>
              obtain ⟨x, hx, rfl, ⟨o1, hrow, hpart, hle, hdone⟩, hbel⟩ := hrel
              have HR1 := Lib.hid hrow
              have HP1 := Lib.hid hpart
              have HL1 := Lib.hid hle
              have HD1 := Lib.hid hdone
              have HBs1 := Lib.hid hbel
              clear hrow hpart hle hdone hbel
              by_cases hxl : x < k
              · rename World => wx
                go_wp2_with fail
                go_loopw [11] (fun i wr => ∃ y : Nat, y ≤ k ∧ i = .int .i64 y ∧ (∃ o, NumRow wr g cp k o ∧ Part (Meet b.nodes) b.nodes.length o ∧ (∀ z, z < b.nodes.length → o z ≤ s z) ∧ (∀ z y, z < x → Meet b.nodes z y → o z ≤ s y) ∧ (∀ z, z < y → Meet b.nodes x z → o x ≤ s z)) ∧ Below W.heap.size W wr) (fun i _ => k - (intOf i).toNat)
                case atStart => exact ⟨0, Nat.zero_le _, rfl, ⟨_, HR1.out, HP1.out, HL1.out, HD1.out, fun z h => absurd h (Nat.not_lt_zero z)⟩, HBs1.out⟩
                case round =>
                  obtain ⟨y, hy, rfl, ⟨o, hrow, hpart, hle, hdone, hdn2⟩, hbel⟩ := hrel
                  have HRo := Lib.hid hrow
                  have HPo := Lib.hid hpart
                  have HLo := Lib.hid hle
                  have HDo := Lib.hid hdone
                  have HD2 := Lib.hid hdn2
                  have HBo := Lib.hid hbel
                  clear hrow hpart hle hdone hdn2 hbel
                  by_cases hyl : y < k
                  · have HMt := Lib.hid (fun (Y : World) (hY : Below W.heap.size W Y) => meet_any (.int .i64 b.roots) (.slice A2 n2 c2) (.int .i64 b.edges) (.slice A4 n4 c4) (.slice A5 n5 c5) A1 k c1 b.nodes x y w Y HN.out (HB.out.trans (hY.mono HB.out.size)) HLk.out h8 hxl hyl)
                    have HX := Lib.hid (fun (Y : World) (hY : Below W.heap.size W Y) => (HBox.out.on hY).get)
                    have HRY := Lib.hid (fun (Y : World) (hY : Below wr.heap.size wr Y) => And.intro (HRo.out.on hY |>.cell hyl hcp) (HRo.out.on hY |>.cell hxl hcp))
                    obtain ⟨mq, hmq⟩ : ∃ q, meetB b.nodes x y = q := ⟨_, rfl⟩
                    have HMq := Lib.hid hmq
                    rw [hmq] at HMt
                    clear hmq
                    obtain ⟨x0, x1, x2, x3, x4, x5⟩ := HX.out wr HBo.out
                    obtain ⟨r0, r1⟩ := HRY.out wr (Below.refl _ _)
                    have hkD := HBo.out.drew
                    have hrD := (Below.refl wr.heap.size wr).drew
                    clear x0 x1 x2 x3 x4 x5
                    cases mq with
                    | true =>
                      have hmm : Meet b.nodes x y := ⟨by rw [HL.out]; exact hxl, by rw [HL.out]; exact hyl, HMq.out⟩
                      have HMm := Lib.hid hmm
                      clear hmm
                      by_cases hol : o y < o x
                      · go_wp2_with fail
                        go_region_held3 (fun w' => (w'.cell? ⟨w.heap.size, 0, none⟩ = some (.int .i64 b.roots) ∧ w'.cell? ⟨w.heap.size, 1, none⟩ = some (.slice A1 k c1) ∧ w'.cell? ⟨w.heap.size, 2, none⟩ = some (.slice A2 n2 c2) ∧ w'.cell? ⟨w.heap.size, 3, none⟩ = some (.int .i64 b.edges) ∧ w'.cell? ⟨w.heap.size, 4, none⟩ = some (.slice A4 n4 c4) ∧ w'.cell? ⟨w.heap.size, 5, none⟩ = some (.slice A5 n5 c5)) ∧ w'.cell? ⟨g, y, none⟩ = some (.int .i64 (o y : Nat)) ∧ w'.cell? ⟨g, x, none⟩ = some (.int .i64 (o x : Nat))) (first | exact ⟨HX.out _ hk3, HRY.out _ hr3⟩ | exact ⟨HX.out _ hkD, HRY.out _ hrD⟩)
                          (first
                           | (go_at_call 59; refine (HMt.out _ hkD).mono ?_; rintro e w3 ⟨rfl, hb3⟩; have hk3 := hkD.trans (hb3.mono hkD.size); have hr3 := hrD.trans (hb3.mono hrD.size)))
                        have hk5 := hk3
                        obtain ⟨r0, r1⟩ := HRY.out w3 hr3
                        have fr := (HRo.out.on hr3).frozen (k := x)
                        have HR3 := Lib.hid (NumRow.set (i := x) (m := o y) (HRo.out.on hr3))
                        have HB3 := Lib.hid (hk3.setCell (p := ⟨g, x, none⟩) (by have := HWz.out; dsimp only; omega) (.int .i64 (o y : Nat)))
                        clear hk3 hr3 hb3 hk5 hkD hrD
                        go_wp2_with fail
                        go_roundw
                        case rel => exact ⟨y + 1, by omega, by go_num, ⟨_, HR3.out, part_set HPo.out HMm.out hol, set_le HLo.out hol, fun z z' hz hm => by
                          rw [setO_other (show z ≠ x by omega)]; exact HDo.out z z' hz hm, fun z hz hm => by
                          rw [setO_same]
                          by_cases e : z = y
                          · subst e; exact HLo.out _ hm.2.1
                          · have := HD2.out z (by omega) hm; omega⟩, HB3.out⟩
                        case measure => simp [intOf]; omega
                      · go_wp2_with fail
                        go_region_held3 (fun w' => (w'.cell? ⟨w.heap.size, 0, none⟩ = some (.int .i64 b.roots) ∧ w'.cell? ⟨w.heap.size, 1, none⟩ = some (.slice A1 k c1) ∧ w'.cell? ⟨w.heap.size, 2, none⟩ = some (.slice A2 n2 c2) ∧ w'.cell? ⟨w.heap.size, 3, none⟩ = some (.int .i64 b.edges) ∧ w'.cell? ⟨w.heap.size, 4, none⟩ = some (.slice A4 n4 c4) ∧ w'.cell? ⟨w.heap.size, 5, none⟩ = some (.slice A5 n5 c5)) ∧ w'.cell? ⟨g, y, none⟩ = some (.int .i64 (o y : Nat)) ∧ w'.cell? ⟨g, x, none⟩ = some (.int .i64 (o x : Nat))) (first | exact ⟨HX.out _ hk3, HRY.out _ hr3⟩ | exact ⟨HX.out _ hkD, HRY.out _ hrD⟩)
                          (first
                           | (go_at_call 59; refine (HMt.out _ hkD).mono ?_; rintro e w3 ⟨rfl, hb3⟩; have hk3 := hkD.trans (hb3.mono hkD.size); have hr3 := hrD.trans (hb3.mono hrD.size)))
                        have HR3 := Lib.hid (HRo.out.on hr3)
                        clear hr3 hb3 hkD hrD
                        go_wp2_with fail
                        go_roundw
                        case rel => exact ⟨y + 1, by omega, by go_num, ⟨_, HR3.out, HPo.out, HLo.out, HDo.out, fun z hz hm => by
                          by_cases e : z = y
                          · subst e; have := HLo.out _ hm.2.1; omega
                          · exact HD2.out z (by omega) hm⟩, hk3⟩
                        case measure => simp [intOf]; omega
                    | false =>
                      go_wp2_with fail
                      refine rh.go_begin 14 (fun w' => (w'.cell? ⟨w.heap.size, 0, none⟩ = some (.int .i64 b.roots) ∧ w'.cell? ⟨w.heap.size, 1, none⟩ = some (.slice A1 k c1) ∧ w'.cell? ⟨w.heap.size, 2, none⟩ = some (.slice A2 n2 c2) ∧ w'.cell? ⟨w.heap.size, 3, none⟩ = some (.int .i64 b.edges) ∧ w'.cell? ⟨w.heap.size, 4, none⟩ = some (.slice A4 n4 c4) ∧ w'.cell? ⟨w.heap.size, 5, none⟩ = some (.slice A5 n5 c5)) ∧ w'.cell? ⟨g, y, none⟩ = some (.int .i64 (o y : Nat)) ∧ w'.cell? ⟨g, x, none⟩ = some (.int .i64 (o x : Nat))) (by kernel_rfl) ?_ (fun hHeld => ?_)
                      · ((try dsimp only); exact ⟨HX.out _ hkD, HRY.out _ hrD⟩)
                      have hH0 := hHeld
                      obtain ⟨⟨x0, x1, x2, x3, x4, x5⟩, r0, r1⟩ := hH0
                      refine rh.go_take (i := 0) (v := ?v1) rfl (by kernel_rfl) (fun _ _ _ h => h) (Or.inl ⟨by rfl, ?hy1⟩) (by assumption) ?rest1
                      case hy1 => (intro wS hSw; (try dsimp only at hSw); go_simp; try (with_reducible rfl))
                      try simp only [Act.put, List.setIfInBounds_toArray, List.set_cons_zero, List.set_cons_succ]
                      refine rh.go_take (i := 1) (v := ?v2) rfl (by kernel_rfl) (fun _ _ _ h => h) (Or.inl ⟨by rfl, ?hy2⟩) (by assumption) ?rest2
                      case hy2 => (intro wS hSw; (try dsimp only at hSw); go_simp; try (with_reducible rfl))
                      try simp only [Act.put, List.setIfInBounds_toArray, List.set_cons_zero, List.set_cons_succ]
                      refine rh.go_take (i := 2) (v := ?v3) rfl (by kernel_rfl) (fun _ _ _ h => h) (Or.inl ⟨by rfl, ?hy3⟩) (by assumption) ?rest3
                      case hy3 => (intro wS hSw; (try dsimp only at hSw); go_simp; try (with_reducible rfl))
                      try simp only [Act.put, List.setIfInBounds_toArray, List.set_cons_zero, List.set_cons_succ]
                      refine rh.go_next (i := 3) rfl (by kernel_rfl) (fun K2 hK => ?_)
                      (go_simp; go_at_call 59; refine (HMt.out _ hkD).mono ?_; rintro e w3 ⟨rfl, hb3⟩; have hk3 := hkD.trans (hb3.mono hkD.size); have hr3 := hrD.trans (hb3.mono hrD.size); go_wp2_with fail)
                      refine hK.out _ _ ?_ (fun hHeld => ?_)
                      · ((try dsimp only); exact ⟨HX.out _ hk3, HRY.out _ hr3⟩)
                      clear hK K2
                      try simp only [Act.put, List.setIfInBounds_toArray, List.set_cons_zero, List.set_cons_succ]
                      have hHeld := And.intro (HX.out _ hk3) (HRY.out _ hr3)
                      refine rh.go_take (i := 4) (v := ?v4) rfl (by kernel_rfl) (fun _ _ _ h => h) (Or.inl ⟨by rfl, ?hy4⟩) (by assumption) ?rest4
                      case hy4 => (intro wS hSw; (try dsimp only at hSw); go_simp; try (with_reducible rfl))
                      try simp only [Act.put, List.setIfInBounds_toArray, List.set_cons_zero, List.set_cons_succ]
                      refine rh.go_take (i := 5) (v := undef) rfl (by kernel_rfl) (fun _ _ _ h => h) (Or.inr ⟨by kernel_rfl, rfl⟩) (by assumption) ?sk5
                      try simp only [Act.put, List.setIfInBounds_toArray, List.set_cons_zero, List.set_cons_succ]
                      refine rh.go_take (i := 6) (v := undef) rfl (by kernel_rfl) (fun _ _ _ h => h) (Or.inr ⟨by kernel_rfl, rfl⟩) (by assumption) ?sk6
                      try simp only [Act.put, List.setIfInBounds_toArray, List.set_cons_zero, List.set_cons_succ]
                      refine rh.go_take (i := 7) (v := undef) rfl (by kernel_rfl) (fun _ _ _ h => h) (Or.inr ⟨by kernel_rfl, rfl⟩) (by assumption) ?sk7
                      try simp only [Act.put, List.setIfInBounds_toArray, List.set_cons_zero, List.set_cons_succ]
                      refine rh.go_take (i := 8) (v := undef) rfl (by kernel_rfl) (fun _ _ _ h => h) (Or.inr ⟨by kernel_rfl, rfl⟩) (by assumption) ?sk8
                      try simp only [Act.put, List.setIfInBounds_toArray, List.set_cons_zero, List.set_cons_succ]
                      refine rh.go_take (i := 9) (v := undef) rfl (by kernel_rfl) (fun _ _ _ h => h) (Or.inr ⟨by kernel_rfl, rfl⟩) (by assumption) ?sk9
                      try simp only [Act.put, List.setIfInBounds_toArray, List.set_cons_zero, List.set_cons_succ]
                      refine rh.go_take (i := 10) (v := undef) rfl (by kernel_rfl) (fun _ _ _ h => h) (Or.inr ⟨by kernel_rfl, rfl⟩) (by assumption) ?sk10
                      try simp only [Act.put, List.setIfInBounds_toArray, List.set_cons_zero, List.set_cons_succ]
                      refine rh.go_take (i := 11) (v := undef) rfl (by kernel_rfl) (fun _ _ _ h => h) (Or.inr ⟨by kernel_rfl, rfl⟩) (by assumption) ?sk11
                      try simp only [Act.put, List.setIfInBounds_toArray, List.set_cons_zero, List.set_cons_succ]
                      refine rh.go_take (i := 12) (v := undef) rfl (by kernel_rfl) (fun _ _ _ h => h) (Or.inr ⟨by kernel_rfl, rfl⟩) (by assumption) ?sk12
                      try simp only [Act.put, List.setIfInBounds_toArray, List.set_cons_zero, List.set_cons_succ]
                      refine rh.go_take (i := 13) (v := undef) rfl (by kernel_rfl) (fun _ _ _ h => h) (Or.inr ⟨by kernel_rfl, rfl⟩) (by assumption) ?sk13
                      try simp only [Act.put, List.setIfInBounds_toArray, List.set_cons_zero, List.set_cons_succ]
                      refine rh.go_last rfl (by kernel_rfl) (fun K2 hK => ?_)
                      go_simp
                      refine hK.out _ _ ?_
                      refine NoPanic.normal ?_
                      clear hK K2
                      have HR3 := Lib.hid (HRo.out.on hr3)
                      clear hr3 hb3 hkD hrD
                      go_wp2_with fail
                      go_roundw
                      case rel => exact ⟨y + 1, by omega, by go_num, ⟨_, HR3.out, HPo.out, HLo.out, HDo.out, fun z hz hm => by
                        by_cases e : z = y
                        · subst e; have := hm.2.2; rw [HMq.out] at this; cases this
                        · exact HD2.out z (by omega) hm⟩, hk3⟩
                      case measure => simp [intOf]; omega
                  · obtain rfl : y = k := by omega
                    go_wp2_with fail
                    go_roundw
                    case rel => exact ⟨x + 1, by omega, by go_num, ⟨_, HRo.out, HPo.out, HLo.out, fun z z' hz hm => by
                      by_cases e : z = x
                      · subst e; exact HD2.out z' (by rw [← HL.out]; exact hm.2.1) hm
                      · exact HDo.out z z' (by omega) hm⟩, HBo.out⟩
                    case measure => simp [intOf]; omega
              · obtain rfl : x = k := by omega
                go_wp2_with fail
                go_roundw
                case rel => exact ⟨t + 1, by omega, by go_num, ⟨_, HR1.out, HP1.out, far_next (meet_symm _) (meet_lt _) HPs.out HP1.out HL1.out (fun z z' hm => HD1.out z z' (by rw [← HL.out]; exact hm.1) hm) HFs.out⟩, HBs1.out⟩
                case measure => simp [intOf]; omega
          · obtain rfl : t = k := by omega
            have HRes : Hid (Res wr w.heap.size wr.heap.size 3 (.slice (some ⟨g, 0, none⟩) t cp) ((lpR cs b).map (Value.int .i64))) := Lib.hid (by
              rw [lpR_yes HQ.out ⟨HPs.out, far_same (meet_symm _) (meet_lt _) (by have := HFs.out; rw [← HL.out] at this; exact this)⟩, HL.out]
              exact res_num HRs.out hcp (by omega) HRs.out.lt)
            go_wp2_with fail
            refine bodyPost_ret (results_tmp2 rfl _ _ _) rfl ?_
            exact ⟨_, rfl, HRes.out, HB.out.trans (HBs.out.mono HB.out.size)⟩
end Go.Proofs.Ytfjgapkjpmkplaa.lps
