/- Cax Cai Bgo Cas CaL in one. -/
import Derived.Test.YtlpgldejmdiceabGreatIdz
import Derived.Test.YtlpgldejmdiceabGreatUw
import Derived.Test.YtlpgldejmdiceabGreatBgs
import Derived.Test.YtlpgldejmdiceabGreatUj
import Derived.Test.YtlpgldejmdiceabGreatBgm
import Derived.Handy
import Derived.OpenShut
import Derived.Test.YtlpgldejmdiceabGreatUv
import Derived.Test.YtlpgldejmdiceabGreatQd
set_option linter.unusedSimpArgs false
section
namespace Go.Proofs.YtlpgldejmdiceabGreat.cax
open kit bg sg opn strs only hb sig isig un over gn nm inn ht gd im pt marks eqs hc hi hw hn rs br bm bw cf lf ib isa lawb lw cl rt ix tg rl ed tp rtg lo nl lep rnp pm pl mb sb wb jo ek wk rk gv tm idl psp mrp mrs mri nd co ft uw nw cz su asc so sx sy idn sz idz
open Go.RowKit
set_option linter.unusedVariables false
theorem tied_nms {ss : List ByteArray} {zs : List Int} (h : zs.length = ss.length) : nms (tied ss zs) = ss := by
  apply List.ext_getElem?
  intro k
  unfold nms
  rw [List.getElem?_map]
  by_cases hk : k < ss.length
  · have h1 := List.getElem?_eq_getElem hk
    have h2 : zs[k]? = some (zs[k]'(by omega)) := List.getElem?_eq_getElem _
    rw [tied_at h1 h2, h1]
    rfl
  · rw [List.getElem?_eq_none (by rw [tied_len h]; omega), List.getElem?_eq_none (by omega)]
    rfl
theorem id_ok {cs : List Ctl} {b : Big} (hg : bigB cs b = true) : bigB cs (idB b.roots.toNat b.outer) = true ∧ idQ b.roots b.outer = true := by
  obtain ⟨hs, hz, hn, -, -, -, -⟩ := big_of hg
  unfold sizesB at hz
  simp only [Bool.and_eq_true, decide_eq_true_eq] at hz
  obtain ⟨⟨⟨⟨⟨r1, r2⟩, r3⟩, r4⟩, r5⟩, r6⟩ := hz
  have r1' := inb_true r1
  refine ⟨big_true ⟨hs, ?_, hn, ?_, fun k nd h => ?_, fun i p h => ?_, fun i x h => ?_⟩, id_yes r1 ?_⟩
  · unfold sizesB idB
    simp only [Bool.and_eq_true, decide_eq_true_eq]
    refine ⟨⟨⟨⟨⟨inb_mk (by omega), inb_mk (by decide)⟩, Nat.zero_le _⟩, ?_⟩, r5⟩, ?_⟩
    · rw [downs_len]; omega
    · rw [tied_len (nums_len _)]; exact r5
  · show NamesP (nms (tied b.outer (nums b.outer.length)))
    rw [tied_nms (nums_len _)]
    exact hn
  · cases h
  · have h0 : (downs b.roots.toNat)[i]? = some p := h
    have hi : i < b.roots.toNat := by have := (List.getElem?_eq_some_iff.1 h0).1; rw [downs_len] at this; exact this
    have e := (downs_at hi).symm.trans h0
    injection e with e
    subst e
    unfold underB
    rw [if_pos (by omega)]
    exact inb_mk (by show 0 ≤ -1 - (-1 - (i : Int)) ∧ -1 - (-1 - (i : Int)) ≤ ((b.roots.toNat : Nat) : Int) - 1; omega)
  · have h0 : (tied b.outer (nums b.outer.length))[i]? = some x := h
    have hi : i < b.outer.length := by have := (List.getElem?_eq_some_iff.1 h0).1; rw [tied_len (nums_len _)] at this; exact this
    have e := (tied_at (List.getElem?_eq_getElem hi) (nums_at hi)).symm.trans h0
    injection e with e
    subst e
    unfold linkB
    exact inb_mk (by show 0 ≤ (i : Int) ∧ (i : Int) ≤ 0 + ((b.outer.length : Nat) : Int) - 1; omega)
  · unfold faceB
    rw [names_true hn]
    simp only [Bool.true_and, decide_eq_true_eq]
    omega
theorem id_rel {cs : List Ctl} {b : Big} (hg : bigB cs b = true) {l : Int} (hl : 0 ≤ l ∧ l < b.edges + b.outer.length) : lkF (rgL (idB b.roots.toNat b.outer) b (0 + b.edges) b.outer) l = l := by
  obtain ⟨hs, hz, hn, -, -, -, -⟩ := big_of hg
  unfold sizesB at hz
  simp only [Bool.and_eq_true, decide_eq_true_eq] at hz
  obtain ⟨⟨⟨⟨⟨r1, r2⟩, r3⟩, r4⟩, r5⟩, r6⟩ := hz
  have r2' := inb_true r2
  unfold rgL
  by_cases h0 : l < b.edges
  · rw [lk_low r2'.1 hl.1 h0]
    show 0 + l = l
    omega
  · obtain ⟨k, u, hk, hu⟩ := name_at hl h0
    have hkl := (List.getElem?_eq_some_iff.1 hu).1
    have hin : (idB b.roots.toNat b.outer).inner[k]? = some ⟨u, (k : Int)⟩ := tied_at hu (nums_at hkl)
    rw [lk_high (y := lkF (lkL 0 (0 + b.edges) (idB b.roots.toNat b.outer) b.outer) (k : Int)) r2'.1 hk (by unfold blL; rw [List.getElem?_map, hin]; rfl)]
    have e := lkL_name (z := 0) (E := 0 + b.edges) (l := (k : Int)) (b := idB b.roots.toNat b.outer) (ou := b.outer) (k := k) (u := u) (by show (0 : Int) ≤ 0; omega) (by show (k : Int) - 0 = k; omega) hu
    rw [e, ix_own hn hu]
    omega
theorem id_place {cs : List Ctl} {b : Big} {m : Int} {p : Int} (hr : 0 ≤ b.roots) (h : underB cs b p m = true) : pcF (downs b.roots.toNat) 0 p = p := by
  by_cases h0 : p < 0
  · unfold underB at h
    rw [if_pos h0] at h
    have h1 := inb_true h
    obtain ⟨k, hk⟩ : ∃ k : Nat, -1 - p = k := ⟨(-1 - p).toNat, by omega⟩
    obtain rfl : p = -1 - (k : Int) := by omega
    exact pcF_neg (downs_at (by omega))
  · rw [pcF_pos h0]
    omega
theorem id_after {cs : List Ctl} {b : Big} (hg : bigB cs b = true) : cpB (idB b.roots.toNat b.outer) b = b := by
  have hP := big_of hg
  obtain ⟨hs, hz, hn, -, hnd, hst, -⟩ := big_of hg
  unfold sizesB at hz
  simp only [Bool.and_eq_true, decide_eq_true_eq] at hz
  obtain ⟨⟨⟨⟨⟨r1, r2⟩, r3⟩, r4⟩, r5⟩, r6⟩ := hz
  have r1' := inb_true r1
  have hrel : relB (lkF (rgL (idB b.roots.toNat b.outer) b (0 + b.edges) b.outer)) b = b := (relB_congr' hg (fun l hl => id_rel hg hl)).trans (relB_id b)
  have hns : b.nodes.map (fun x => (⟨x.control, pcF (downs b.roots.toNat) 0 x.parent, x.links⟩ : Nd)) = b.nodes := by
    refine List.ext_getElem? (fun i => ?_)
    rw [List.getElem?_map]
    cases h : b.nodes[i]? with
    | none => rfl
    | some x =>
      have h1 := (hnd i x h).1
      unfold seatB at h1
      simp only [Bool.and_eq_true] at h1
      show some (⟨x.control, pcF (downs b.roots.toNat) 0 x.parent, x.links⟩ : Nd) = some x
      rw [id_place r1'.1 h1.2]
  have hss : b.sites.map (pcF (downs b.roots.toNat) 0) = b.sites := by
    refine List.ext_getElem? (fun i => ?_)
    rw [List.getElem?_map]
    cases h : b.sites[i]? with
    | none => rfl
    | some x =>
      show some (pcF (downs b.roots.toNat) 0 x) = some x
      rw [id_place r1'.1 (hst i x h)]
  show (⟨((b.roots.toNat : Nat) : Int), [] ++ (plB (pcF (downs b.roots.toNat) 0) (relB (lkF (rgL (idB b.roots.toNat b.outer) b (0 + b.edges) b.outer)) b)).nodes, b.sites.map (pcF (downs b.roots.toNat) 0), 0 + b.edges, b.outer, (relB (lkF (rgL (idB b.roots.toNat b.outer) b (0 + b.edges) b.outer)) b).inner⟩ : Big) = b
  rw [hrel, hss]
  unfold plB
  dsimp only
  rw [hns, List.nil_append, Int.zero_add, Int.toNat_of_nonneg r1'.1]
theorem id_cp {cs : List Ctl} {b : Big} (hg : bigB cs b = true) : cpQ cs (idR b.roots b.outer) b = true ∧ cpR cs (idR b.roots b.outer) b = b := by
  have h := id_ok hg
  have hP : cpP cs (idB b.roots.toNat b.outer) b = true := by
    have r1 := inb_true (by obtain ⟨-, hz, -⟩ := big_of hg; unfold sizesB at hz; simp only [Bool.and_eq_true] at hz; exact hz.1.1.1.1.1)
    unfold cpP fitB
    rw [h.1, hg]
    simp only [Bool.true_and, Bool.and_eq_true, decide_eq_true_eq]
    refine ⟨?_, tied_nms (nums_len _)⟩
    show ((downs b.roots.toNat).length : Int) = b.roots
    rw [downs_len]
    omega
  rw [idR_yes h.2, (cp_yes hP).1, (cp_yes hP).2, id_after hg]
  refine ⟨hg, ?_⟩
  unfold giveR
  rw [if_pos hg]
theorem cp_bad {cs : List Ctl} {a b : Big} (hg : bigB cs b = false) : cpQ cs a b = false := by
  unfold cpQ cpP
  rw [hg]
  simp
/-- Bigraphs one after another -/
noncomputable def caF (cs : List Ctl) : Option Big → List Big → Option Big
  | none, _ => none
  | some a, [] => some a
  | some a, b :: bs => if cpQ cs a b = true then caF cs (some (cpR cs a b)) bs else none
theorem caF_snoc (cs : List Ctl) (o : Option Big) (bs : List Big) (x : Big) : caF cs o (bs ++ [x]) = match caF cs o bs with
    | some a => if cpQ cs a x = true then some (cpR cs a x) else none
    | none => none := by
  induction bs generalizing o with
  | nil =>
    cases o with
    | none => rfl
    | some a =>
      show (if cpQ cs a x = true then caF cs (some (cpR cs a x)) [] else none) = if cpQ cs a x = true then some (cpR cs a x) else none
      cases cpQ cs a x <;> rfl
  | cons y ys ih =>
    cases o with
    | none => rfl
    | some a =>
      show (if cpQ cs a y = true then caF cs (some (cpR cs a y)) (ys ++ [x]) else none) = match (if cpQ cs a y = true then caF cs (some (cpR cs a y)) ys else none) with
        | some a => if cpQ cs a x = true then some (cpR cs a x) else none
        | none => none
      cases h : cpQ cs a y with
      | false => rfl
      | true => simp only [if_true]; exact ih _
theorem id_tame {b : Big} (hq : idQ b.roots b.outer = true) (hSb : BigS b) : Tame (idB b.roots.toNat b.outer) := by
  unfold idQ at hq
  simp only [Bool.and_eq_true] at hq
  have h1 := inb_true hq.1
  have h2 := face_le hq.2
  have hl : (tied b.outer (nums b.outer.length)).length = b.outer.length := tied_len (nums_len _)
  exact
  { r := by show -1000 ≤ ((b.roots.toNat : Nat) : Int) ∧ ((b.roots.toNat : Nat) : Int) ≤ 1000; omega
    e := by show -1000 ≤ (0 : Int) ∧ (0 : Int) ≤ 1000; omega
    n := by show 0 ≤ 1000; omega
    nd := fun x hx => (by cases hx)
    s := by show (downs b.roots.toNat).length ≤ 1000; rw [downs_len]; omega
    st := fun z hz => by
      obtain ⟨k, hk⟩ := List.getElem?_of_mem (show z ∈ downs b.roots.toNat from hz)
      have hk2 := (List.getElem?_eq_some_iff.1 hk).1
      rw [downs_len] at hk2
      have e := (downs_at hk2).symm.trans hk
      injection e with e
      omega
    o := by show b.outer.length ≤ 1000; omega
    on := hSb.2.2.2.2.1
    i := by show (tied b.outer (nums b.outer.length)).length ≤ 1000; omega
    iw := fun x hx => by
      obtain ⟨k, hk⟩ := List.getElem?_of_mem (show x ∈ tied b.outer (nums b.outer.length) from hx)
      have hk2 := (List.getElem?_eq_some_iff.1 hk).1
      rw [hl] at hk2
      have e := (tied_at (List.getElem?_eq_getElem hk2) (nums_at hk2)).symm.trans hk
      injection e with e
      subst e
      exact ⟨hSb.2.2.2.2.1 _ (List.getElem_mem hk2), by show -1000 ≤ (k : Int); omega, by show (k : Int) ≤ 1000; omega⟩ }
theorem cpR_tame {cs : List Ctl} {a b : Big} (h : cpQ cs a b = true) (hSa : BigS a) (hSb : BigS b) : Tame (cpR cs a b) := by
  unfold cpQ at h
  simp only [Bool.and_eq_true] at h
  rw [(cp_yes h.1).2]
  have hP := h.1
  unfold cpP at hP
  simp only [Bool.and_eq_true] at hP
  unfold giveR
  rw [if_pos h.2]
  exact cp_tame hP.1.1 hP.1.2 hP.2 hSa hSb
noncomputable def caO (cs : List Ctl) : List Big → Option Big
  | [] => none
  | b :: t => if (decide (t.length ≤ 7) && bigB cs b) = true then caF cs (some b) t else none
noncomputable def caQ (cs : List Ctl) (bs : List Big) : Bool := (caO cs bs).isSome
noncomputable def caR (cs : List Ctl) (bs : List Big) : Big := (caO cs bs).getD zeroBig
theorem caF_none (cs : List Ctl) (bs : List Big) : caF cs none bs = none := by cases bs <;> rfl
/-- from the identity of the first one on -/
theorem caO_id {cs : List Ctl} {b : Big} {t : List Big} (hl : t.length ≤ 7) (hq : idQ b.roots b.outer = true) : caF cs (some (idR b.roots b.outer)) (b :: t) = caO cs (b :: t) := by
  show (if cpQ cs (idR b.roots b.outer) b = true then caF cs (some (cpR cs (idR b.roots b.outer) b)) t else none) = (if (decide (t.length ≤ 7) && bigB cs b) = true then caF cs (some b) t else none)
  rw [decide_eq_true hl, Bool.true_and]
  cases hg : bigB cs b with
  | false => rw [cp_bad hg]; rfl
  | true => rw [(id_cp hg).1, (id_cp hg).2]
theorem caO_noid {cs : List Ctl} {b : Big} {t : List Big} (hq : idQ b.roots b.outer = false) : caO cs (b :: t) = none := by
  show (if (decide (t.length ≤ 7) && bigB cs b) = true then caF cs (some b) t else none) = none
  cases hg : bigB cs b with
  | false => rw [Bool.and_false]; rfl
  | true => rw [(id_ok hg).2] at hq; cases hq
theorem caO_long {cs : List Ctl} {b : Big} {t : List Big} (hl : ¬ t.length ≤ 7) : caO cs (b :: t) = none := by
  show (if (decide (t.length ≤ 7) && bigB cs b) = true then caF cs (some b) t else none) = none
  rw [decide_eq_false hl, Bool.false_and]
  rfl
theorem caF_app (cs : List Ctl) (o : Option Big) (l r : List Big) : caF cs o (l ++ r) = caF cs (caF cs o l) r := by
  induction l generalizing o with
  | nil => cases o <;> rfl
  | cons y ys ih =>
    cases o with
    | none => show none = caF cs none r; rw [caF_none]
    | some a =>
      show (if cpQ cs a y = true then caF cs (some (cpR cs a y)) (ys ++ r) else none) = caF cs (if cpQ cs a y = true then caF cs (some (cpR cs a y)) ys else none) r
      cases h : cpQ cs a y with
      | false => show none = caF cs none r; rw [caF_none]
      | true => simp only [if_true]; exact ih _
theorem caF_stop {cs : List Ctl} {o : Option Big} {bs : List Big} {k : Nat} {a x : Big} (h : caF cs o (bs.take k) = some a) (hx : bs[k]? = some x) (hq : cpQ cs a x = false) : caF cs o bs = none := by
  have key : ∀ (r : List Big), caF cs o (bs.take (k + 1) ++ r) = none := fun r => by
    have h1 : caF cs o (bs.take (k + 1)) = none := by
      rw [List.take_add_one, hx]
      show caF cs o (bs.take k ++ [x]) = none
      rw [caF_snoc, h]
      show (if cpQ cs a x = true then some (cpR cs a x) else none) = none
      rw [hq]; rfl
    rw [caF_app, h1, caF_none]
  have := key (bs.drop (k + 1))
  rwa [List.take_append_drop] at this
theorem caF_step {cs : List Ctl} {o : Option Big} {bs : List Big} {k : Nat} {a x : Big} (h : caF cs o (bs.take k) = some a) (hx : bs[k]? = some x) (hq : cpQ cs a x = true) : caF cs o (bs.take (k + 1)) = some (cpR cs a x) := by
  rw [List.take_add_one, hx]
  show caF cs o (bs.take k ++ [x]) = _
  rw [caF_snoc, h]
  show (if cpQ cs a x = true then some (cpR cs a x) else none) = _
  rw [hq]; rfl
end Go.Proofs.YtlpgldejmdiceabGreat.cax
end

section
namespace Go.Proofs.YtlpgldejmdiceabGreat.cai
open kit bg sg opn strs only hb sig isig un over gn nm inn ht gd im pt marks eqs hc hi hw hn rs br bm bw cf lf ib isa lawb lw cl rt ix tg rl ed tp rtg uw nj cg rk nk wk ek tm gv lep mrp mri mrs pl ft co idn idz bgs cax
open uj (iCp_any)
open Go.RowKit
set_option linter.unusedVariables false
set_option linter.unusedSimpArgs false
theorem nil_big {w : World} {lo hi : Nat} {v : Value} {b : Big} (h : BigR w lo hi v b) : NilV v := by
  obtain ⟨P, rfl, hL⟩ := laid_of h
  exact laid_nil hL
/-- an element of a row of Bigraphs, kept -/
theorem elem {w Y : World} {g n : Nat} {bs : List Big} (h : BgsK w g n n bs) (hg : g < w.heap.size) (hY : Below w.heap.size w Y) {k : Nat} {x : Big} (hkn : k < n) (hk : bs[k]? = some x) :
    ∃ g1 g2 g4 g5, (Y.cell? ⟨g, k * 6, none⟩ = some (.int .i64 x.roots) ∧ Y.cell? ⟨g, k * 6 + 1, none⟩ = some (.slice (some ⟨g1, 0, none⟩) x.nodes.length x.nodes.length) ∧ Y.cell? ⟨g, k * 6 + 2, none⟩ = some (.slice (some ⟨g2, 0, none⟩) x.sites.length x.sites.length) ∧ Y.cell? ⟨g, k * 6 + 3, none⟩ = some (.int .i64 x.edges) ∧ Y.cell? ⟨g, k * 6 + 4, none⟩ = some (.slice (some ⟨g4, 0, none⟩) x.outer.length x.outer.length) ∧ Y.cell? ⟨g, k * 6 + 5, none⟩ = some (.slice (some ⟨g5, 0, none⟩) x.inner.length x.inner.length)) ∧
      BigAt Y Y.heap.size (.agg #[.int .i64 x.roots, .slice (some ⟨g1, 0, none⟩) x.nodes.length x.nodes.length, .slice (some ⟨g2, 0, none⟩) x.sites.length x.sites.length, .int .i64 x.edges, .slice (some ⟨g4, 0, none⟩) x.outer.length x.outer.length, .slice (some ⟨g5, 0, none⟩) x.inner.length x.inner.length]) x ∧ NilV (.agg #[.int .i64 x.roots, .slice (some ⟨g1, 0, none⟩) x.nodes.length x.nodes.length, .slice (some ⟨g2, 0, none⟩) x.sites.length x.sites.length, .int .i64 x.edges, .slice (some ⟨g4, 0, none⟩) x.outer.length x.outer.length, .slice (some ⟨g5, 0, none⟩) x.inner.length x.inner.length]) := by
  obtain ⟨f, L, hrow, hL, hf⟩ := h
  have ho := hf k x hkn hk
  have hL2 := (hL (k + 1) (by omega)).2
  have ho' := ho.blocks (w' := Y) (fun i h1 h2 => hY.block i (by omega))
  have hr' := hrow.of_block (hY.block g hg)
  have hN := NilV.of_own ho'
  have hA := ho'.at
  obtain ⟨g1, g2, g4, g5, e, -⟩ := ho'
  have e' := e
  rw [e] at hN hA
  unfold aggAt at e'
  simp only [Value.agg.injEq, Array.mk.injEq, List.cons.injEq, and_true] at e'
  obtain ⟨e0, e1, e2, e3, e4, e5⟩ := e'
  exact ⟨g1, g2, g4, g5, ⟨(hr'.cell (by omega)).trans (congrArg some e0), (hr'.cell (by omega)).trans (congrArg some e1), (hr'.cell (by omega)).trans (congrArg some e2), (hr'.cell (by omega)).trans (congrArg some e3), (hr'.cell (by omega)).trans (congrArg some e4), (hr'.cell (by omega)).trans (congrArg some e5)⟩, hA.wide (Nat.le_trans hL2 hY.size), hN⟩
theorem sr_elem {w : World} {B : Nat} {A1 A2 A4 A5 : Option Addr} {n1 c1 n2 c2 n4 c4 n5 c5 : Nat} {r e : Int} {b : Big} (h : BigAt w B (.agg #[.int .i64 r, .slice A1 n1 c1, .slice A2 n2 c2, .int .i64 e, .slice A4 n4 c4, .slice A5 n5 c5]) b) : SR w B A4 n4 (b.outer.map Value.string) := by
  obtain ⟨A1', n1', c1', A2', n2', c2', A4', n4', c4', A5', n5', c5', ev, -, -, h4, -⟩ := h
  simp only [Value.agg.injEq, Array.mk.injEq, List.cons.injEq, Value.slice.injEq, and_true] at ev
  obtain ⟨-, -, -, -, ⟨rfl, rfl, rfl⟩, -⟩ := ev
  exact h4
theorem ca_none {cs : List Ctl} {bs : List Big} (h : caO cs bs = none) : caQ cs bs = false ∧ caR cs bs = zeroBig := by unfold caQ caR; rw [h]; exact ⟨rfl, rfl⟩
theorem ca_some {cs : List Ctl} {bs : List Big} {a : Big} (h : caO cs bs = some a) : caQ cs bs = true ∧ caR cs bs = a := by unfold caQ caR; rw [h]; exact ⟨rfl, rfl⟩
theorem ca_out {cs : List Ctl} {bs : List Big} (h : inb (bs.length : Int) 1 8 = false) : caO cs bs = none := by
  have h := inb_false h
  cases bs with
  | nil => rfl
  | cons b t => exact caO_long (by rw [List.length_cons] at h; omega)
set_option maxRecDepth 20000 in
set_option maxHeartbeats 6400000 in
theorem iCa_any (A : Option Addr) (n c : Nat) (cs : List Ctl) (g m : Nat) (bs : List Big) (w : World) (hC : CtlsAt w w.heap.size A n cs) (hn : n ≤ 1048576) (hs : ∀ c ∈ cs, c.name.size ≤ 1048576) (hB : BgsK w g m m bs) (hl : bs.length = m) (hg : g < w.heap.size) (hm : m ≤ 1048576) (hS : ∀ b ∈ bs, BigS b) (hW : ∀ b ∈ bs, BigW b) :
    Calls Tryz.prog 9 #[.slice A n c, .slice (some ⟨g, 0, none⟩) m m] w (BigPost (caQ cs bs) (caR cs bs) w) := by
  have hb0 := (Below.refl w.heap.size w).alloc (Nat.le_refl _) (.cells #[.int .i64 0, .slice none 0 0, .slice none 0 0, .int .i64 0, .slice none 0 0, .slice none 0 0] 31)
  have HBr0 : BoxAt (w.alloc (.cells #[.int .i64 0, .slice none 0 0, .slice none 0 0, .int .i64 0, .slice none 0 0, .slice none 0 0] 31)) w.heap.size 31 (.int .i64 0) (.slice none 0 0) (.slice none 0 0) (.int .i64 0) (.slice none 0 0) (.slice none 0 0) := six_new w _ _ _ _ _ _ _
  obtain ⟨X, hX⟩ : ∃ X, w.alloc (.cells #[.int .i64 0, .slice none 0 0, .slice none 0 0, .int .i64 0, .slice none 0 0, .slice none 0 0] 31) = X := ⟨_, rfl⟩
  have hXz : X.heap.size = w.heap.size + 1 := by rw [← hX]; simp
  rw [hX] at HBr0 hb0
  have HXq := Lib.hid hX
  have HB0 := Lib.hid hb0
  have HBr := Lib.hid HBr0
  have HXz := Lib.hid hXz
  have HEl := Lib.hid (fun (Y : World) (hY : Below w.heap.size w Y) (k : Nat) (x : Big) (hkn : k < m) (hk : bs[k]? = some x) => elem hB hg hY hkn hk)
  have HC := Lib.hid (fun (Y : World) (hY : Below w.heap.size w Y) => ((hC.below hY).wide hY.size : CtlsAt Y Y.heap.size A n cs))
  have HS := Lib.hid hS
  have HW := Lib.hid hW
  have HG := Lib.hid hg
  have hk0 := Below.refl X.heap.size X
  clear hX hb0 HBr0 hXz hB hC hS hW hg
  obtain ⟨z0, z1, z2, z3, z4, z5⟩ := HBr.out.get
  have CWn := win_any (m : Int) 1 8 X
  cases hin : inb (m : Int) 1 8 with
  | false =>
    have HR := Lib.hid (ca_none (cs := cs) (ca_out (by rw [hl]; exact hin)))
    rw [hin] at CWn
    clear hin
    go_enter Tryz.func9, Tryz.ntmps9
    go_wp2_with fail
    rw [HXq.out]
    go_wp2_with fail
    refine CWn.mono ?_
    rintro e w' ⟨rfl, rfl⟩
    have f0 := World.rowIs.frozen HBr.out 0
    have f1 := World.rowIs.frozen HBr.out 1
    have f2 := World.rowIs.frozen HBr.out 2
    have f3 := World.rowIs.frozen HBr.out 3
    have f4 := World.rowIs.frozen HBr.out 4
    have f5 := World.rowIs.frozen HBr.out 5
    go_wp2_with fail
    refine bodyPost_ret (v := .tuple #[.agg #[.int .i64 0, .slice none 0 0, .slice none 0 0, .int .i64 0, .slice none 0 0, .slice none 0 0], .bool false]) (by simp [results, Tryz.results9, go_sem, z0, z1, z2, z3, z4, z5]) rfl (by rw [HR.out.1, HR.out.2]; exact ⟨_, rfl, BigR.zero, sets6_below HB0.out (by omega) _ _ _ _ _ _⟩)
  | true =>
    rw [hin] at CWn
    have hin := inb_true hin
    obtain ⟨b0, t, rfl⟩ : ∃ b0 t, bs = b0 :: t := by
      cases bs with
      | nil => rw [List.length_nil] at hl; omega
      | cons b t => exact ⟨b, t, rfl⟩
    have htl : t.length ≤ 7 := by rw [List.length_cons] at hl; omega
    have hm0 : (0 : Int) < (m : Int) := by omega
    have hm1 : 0 < m := by omega
    have hm2 : (1 : Int) ≤ (m : Int) := by omega
    have hmem : b0 ∈ b0 :: t := List.mem_cons_self
    have hS0 := HS.out b0 hmem
    have hW0 := HW.out b0 hmem
    obtain ⟨g1, g2, g4, g5, ⟨x0, x1, x2, x3, x4, x5⟩, hA0, hN0⟩ := HEl.out X HB0.out 0 b0 (by omega) rfl
    simp only [Nat.zero_mul, Nat.zero_add] at x0 x1 x2 x3 x4 x5
    have hsr := sr_elem hA0
    have HSr := Lib.hid (fun (Y : World) (hY : Below X.heap.size X Y) => ((hsr.below hY).wide hY.size : SR Y Y.heap.size (some ⟨g4, 0, none⟩) b0.outer.length (b0.outer.map Value.string)))
    have HCi := Lib.hid (fun (Y : World) (hY : Below X.heap.size X Y) => iId_any b0.roots (some ⟨g4, 0, none⟩) b0.outer.length b0.outer.length b0.outer Y hW0.1 (HSr.out Y hY) hS0.2.2.2.1 hS0.2.2.2.2.1 (fun e => by cases e))
    have HSt := Lib.hid (fun (Y : World) (hY : Below X.heap.size X Y) => (And.intro ((hY.cell (p := ⟨g, 0, none⟩) (by have := HG.out; have := HXz.out; show g < X.heap.size; omega)).trans x0) ((hY.cell (p := ⟨g, 4, none⟩) (by have := HG.out; have := HXz.out; show g < X.heap.size; omega)).trans x4)))
    obtain ⟨qi, hqi⟩ : ∃ q, idQ b0.roots b0.outer = q := ⟨_, rfl⟩
    obtain ⟨Ri, hRi⟩ : ∃ r, idR b0.roots b0.outer = r := ⟨_, rfl⟩
    rw [hqi, hRi] at HCi
    have HQi := Lib.hid hqi
    have HRi := Lib.hid hRi
    have HLt := Lib.hid htl
    have HLm := Lib.hid hl
    clear hA0 hN0 hsr hS0 hW0 hmem htl hqi hRi hl
    go_enter Tryz.func9, Tryz.ntmps9
    go_wp2_with fail
    rw [HXq.out]
    go_wp2_with fail
    refine CWn.mono ?_
    rintro e w' ⟨rfl, rfl⟩
    clear CWn
    go_wp2_with fail
    go_cut [6, 7] from 15 to 27 (fun s6 s7 wx => GotBox X qi Ri s6 s7 wx)
    case first =>
      have hkD := (Below.refl X.heap.size X).drew
      go_region_held3 (fun w' => w'.cell? ⟨g, 0, none⟩ = some (.int .i64 b0.roots) ∧ w'.cell? ⟨g, 4, none⟩ = some (.slice (some ⟨g4, 0, none⟩) b0.outer.length b0.outer.length)) (first
        | with_reducible exact HSt.out _ (((((((hkZ).setCell hβ _).setCell hβ _).setCell hβ _).setCell hβ _).setCell hβ _).setCell hβ _)
        | with_reducible exact HSt.out _ (((((((hkZ.alloc hkZ.size _).setCell hkZ.size _).setCell hkZ.size _).setCell hkZ.size _).setCell hkZ.size _).setCell hkZ.size _).setCell hkZ.size _)
        | with_reducible exact HSt.out _ hkZ
        | with_reducible exact HSt.out _ (hkZ.alloc hkZ.size _)
        | with_reducible exact HSt.out _ hkD
        | with_reducible exact HSt.out _ ((Below.refl X.heap.size X).alloc (Nat.le_refl _) _).drew)
        (first
         | (go_at_call 26; refine (HCi.out _ (((Below.refl X.heap.size X).alloc (Nat.le_refl _) (.cells #[.int .i64 0, .slice none 0 0, .slice none 0 0, .int .i64 0, .slice none 0 0, .slice none 0 0] 31)).drew)).mono ?_; rintro e w4 ⟨vb0, rfl, hrb0, hb⟩; obtain ⟨D1, d1, D2, d2, D4, d4, D5, d5, rfl⟩ := hrb0.shape; have hkZ := (((Below.refl X.heap.size X).alloc (Nat.le_refl _) (.cells #[.int .i64 0, .slice none 0 0, .slice none 0 0, .int .i64 0, .slice none 0 0, .slice none 0 0] 31)).drew).trans (hb.mono (((Below.refl X.heap.size X).alloc (Nat.le_refl _) (.cells #[.int .i64 0, .slice none 0 0, .slice none 0 0, .int .i64 0, .slice none 0 0, .slice none 0 0] 31)).drew).size); have hrb0 := hrb0.wide (lo' := X.heap.size) (((Below.refl X.heap.size X).alloc (Nat.le_refl _) (.cells #[.int .i64 0, .slice none 0 0, .slice none 0 0, .int .i64 0, .slice none 0 0, .slice none 0 0] 31)).drew).size (Nat.le_refl _); have hβ := Nat.le_refl X.heap.size; have hrow := (World.rowIs.drew (six_new X (.int .i64 0) (.slice none 0 0) (.slice none 0 0) (.int .i64 0) (.slice none 0 0) (.slice none 0 0) 31)).of_block (hb.block _ (by simp)); obtain ⟨y0, y1, y2, y3, y4, y5⟩ := row6 hrow; have f0 := hrow.frozen 0; have f1 := hrow.frozen 1; have f2 := hrow.frozen 2; have f3 := hrow.frozen 3; have f4 := hrow.frozen 4; have f5 := hrow.frozen 5; clear hb)
         | (go_at_call 26; refine (HCi.out _ hkD).mono ?_; rintro e w4 ⟨vb0, rfl, hrb0, hb⟩; obtain ⟨D1, d1, D2, d2, D4, d4, D5, d5, rfl⟩ := hrb0.shape; have hkZ := hkD.trans (hb.mono hkD.size); have hrb0 := hrb0.wide (lo' := X.heap.size) hkD.size (Nat.le_refl _); clear hb))
      all_goals (go_wp2_with fail; go_meet)
      all_goals (first | with_reducible exact got_late qi hrb0 (Nat.le_refl _) hkZ | with_reducible exact got_early qi hrow hβ hrb0 (Nat.le_refl _) hkZ)
    case rest =>
    clear x0 x1 x2 x3 x4 x5 z0 z1 z2 z3 z4 z5
    obtain ⟨w4, hwc⟩ : ∃ x, wc = x := ⟨_, rfl⟩
    rw [hwc] at hcut ⊢
    clear hwc
    obtain ⟨β, D1, d1, D2, d2, D4, d4, D5, d5, rfl, rfl, hβ, hbox, hrb, hb⟩ := hcut
    have HB4 := Lib.hid (HB0.out.trans (hb.mono HB0.out.size))
    have HBr4 := Lib.hid (HBr.out.on hb)
    have HBx4 := Lib.hid hbox
    have HRb4 := Lib.hid hrb
    have Hβ : Hid (w.heap.size < β) := Lib.hid (by have := HXz.out; omega)
    have HZ4 : Hid (X.heap.size ≤ w4.heap.size) := Lib.hid hb.size
    clear hb hbox hrb hβ HBr hk0 HSt HCi HSr HXq
    cases qi with
    | false =>
      have HR := Lib.hid (ca_none (caO_noid (cs := cs) (t := t) HQi.out))
      obtain ⟨z0, z1, z2, z3, z4, z5⟩ := HBr4.out.get
      have f0 := World.rowIs.frozen HBr4.out 0
      have f1 := World.rowIs.frozen HBr4.out 1
      have f2 := World.rowIs.frozen HBr4.out 2
      have f3 := World.rowIs.frozen HBr4.out 3
      have f4 := World.rowIs.frozen HBr4.out 4
      have f5 := World.rowIs.frozen HBr4.out 5
      go_wp2_with fail
      refine bodyPost_ret (v := .tuple #[.agg #[.int .i64 0, .slice none 0 0, .slice none 0 0, .int .i64 0, .slice none 0 0, .slice none 0 0], .bool false]) (by simp [results, Tryz.results9, go_sem, z0, z1, z2, z3, z4, z5]) rfl (by rw [HR.out.1, HR.out.2]; exact ⟨_, rfl, BigR.zero, sets6_below HB4.out (by omega) _ _ _ _ _ _⟩)
    | true =>
      have hSm := HS.out b0 List.mem_cons_self
      have hTi : Tame Ri := by rw [← HRi.out, idR_yes HQi.out]; exact id_tame HQi.out hSm
      have HTi := Lib.hid hTi
      clear hTi hSm
      go_wp2_with fail
      go_loopw [32] (fun i wr => ∃ (j : Nat) (a : Big) (E1 : Option Addr) (e1 : Nat) (E2 : Option Addr) (e2 : Nat) (E4 : Option Addr) (e4 : Nat) (E5 : Option Addr) (e5 : Nat), i = .int .i64 j ∧ j ≤ m ∧ caF cs (some Ri) ((b0 :: t).take j) = some a ∧ BigS a ∧ BigW a ∧ BoxAt wr w.heap.size 31 (.int .i64 0) (.slice none 0 0) (.slice none 0 0) (.int .i64 0) (.slice none 0 0) (.slice none 0 0) ∧ BoxAt wr β 31 (.int .i64 a.roots) (.slice E1 a.nodes.length e1) (.slice E2 a.sites.length e2) (.int .i64 a.edges) (.slice E4 a.outer.length e4) (.slice E5 a.inner.length e5) ∧ BigR wr X.heap.size wr.heap.size (.agg #[.int .i64 a.roots, .slice E1 a.nodes.length e1, .slice E2 a.sites.length e2, .int .i64 a.edges, .slice E4 a.outer.length e4, .slice E5 a.inner.length e5]) a ∧ Below w.heap.size w wr ∧ X.heap.size ≤ wr.heap.size) (fun i _ => m - (intOf i).toNat)
      case atStart => exact ⟨0, Ri, D1, d1, D2, d2, D4, d4, D5, d5, rfl, Nat.zero_le _, rfl, HTi.out.S, HTi.out.W, HBr4.out, HBx4.out, HRb4.out, HB4.out, HZ4.out⟩
      case round =>
        obtain ⟨j, a, E1, e1, E2, e2, E4, e4, E5, e5, rfl, hj, hca, hSa, hWa, hbr, hbx, hra, hbl, hsz⟩ := hrel
        by_cases hlt : j < m
        · obtain ⟨x, hx⟩ : ∃ x, (b0 :: t)[j]? = some x := ⟨_, List.getElem?_eq_getElem (by rw [HLm.out]; exact hlt)⟩
          have hxm := List.mem_of_getElem? hx
          obtain ⟨g1, g2, g4, g5, ⟨y0, y1, y2, y3, y4, y5⟩, hxA, hxN⟩ := HEl.out wr hbl j x hlt hx
          have hbY := (Below.refl wr.heap.size wr).alloc (Nat.le_refl _) (.cells #[.int .i64 x.roots, .slice (some ⟨g1, 0, none⟩) x.nodes.length x.nodes.length, .slice (some ⟨g2, 0, none⟩) x.sites.length x.sites.length, .int .i64 x.edges, .slice (some ⟨g4, 0, none⟩) x.outer.length x.outer.length, .slice (some ⟨g5, 0, none⟩) x.inner.length x.inner.length] 31)
          have hboxY : BoxAt (wr.alloc (.cells #[.int .i64 x.roots, .slice (some ⟨g1, 0, none⟩) x.nodes.length x.nodes.length, .slice (some ⟨g2, 0, none⟩) x.sites.length x.sites.length, .int .i64 x.edges, .slice (some ⟨g4, 0, none⟩) x.outer.length x.outer.length, .slice (some ⟨g5, 0, none⟩) x.inner.length x.inner.length] 31)) wr.heap.size 31 (.int .i64 x.roots) (.slice (some ⟨g1, 0, none⟩) x.nodes.length x.nodes.length) (.slice (some ⟨g2, 0, none⟩) x.sites.length x.sites.length) (.int .i64 x.edges) (.slice (some ⟨g4, 0, none⟩) x.outer.length x.outer.length) (.slice (some ⟨g5, 0, none⟩) x.inner.length x.inner.length) := six_new wr _ _ _ _ _ _ _
          obtain ⟨Y, hY⟩ : ∃ Y, wr.alloc (.cells #[.int .i64 x.roots, .slice (some ⟨g1, 0, none⟩) x.nodes.length x.nodes.length, .slice (some ⟨g2, 0, none⟩) x.sites.length x.sites.length, .int .i64 x.edges, .slice (some ⟨g4, 0, none⟩) x.outer.length x.outer.length, .slice (some ⟨g5, 0, none⟩) x.inner.length x.inner.length] 31) = Y := ⟨_, rfl⟩
          rw [hY] at hbY hboxY
          have HYq := Lib.hid hY
          have hblY := hbl.trans (hbY.mono hbl.size)
          have hraY := hra.on hbY
          have CC := Lib.hid (iCp_any A n c cs _ a _ x Y (HC.out Y hblY) hn hs (hraY.at.wide hbY.size) hSa hWa (nil_big hraY) ((hxA.below hbY).wide hbY.size) (HS.out x hxm) (HW.out x hxm) hxN)
          have HBrY := Lib.hid (hbr.on hbY)
          have HBxY := Lib.hid (hbx.on hbY)
          have HBoxY := Lib.hid hboxY
          have HBlY := Lib.hid hblY
          have HZY : Hid (X.heap.size ≤ Y.heap.size) := Lib.hid (Nat.le_trans hsz hbY.size)
          have HSx := Lib.hid (HS.out x hxm)
          have HSa := Lib.hid hSa
          have HCa := Lib.hid hca
          have HX := Lib.hid hx
          obtain ⟨q5, hq5⟩ : ∃ q, cpQ cs a x = q := ⟨_, rfl⟩
          obtain ⟨R5, hR5⟩ : ∃ r, cpR cs a x = r := ⟨_, rfl⟩
          rw [hq5, hR5] at CC
          have HQ5 := Lib.hid hq5
          have HR5 := Lib.hid hR5
          clear hY hbY hboxY hblY hraY hra hbr hbx hbl hsz hSa hWa hca hx hxm hxA hxN hq5 hR5
          have uu := HBxY.out.get
          have vv := HBoxY.out.get
          rw [← HYq.out] at uu vv
          obtain ⟨u0, u1, u2, u3, u4, u5⟩ := uu
          obtain ⟨v0, v1, v2, v3, v4, v5⟩ := vv
          go_wp2_with fail
          rw [HYq.out]
          refine CC.out.mono ?_
          rintro e w5 ⟨v5, rfl, hr5, hb5⟩
          obtain ⟨F1, i1, F2, i2, F4, i4, F5, i5, rfl⟩ := hr5.shape
          clear u0 u1 u2 u3 u4 u5 v0 v1 v2 v3 v4 y0 y1 y2 y3 y4 y5 CC
          have hbx5 := HBxY.out.on hb5
          obtain ⟨V, hV⟩ : ∃ V, sets6 w5 β (.int .i64 R5.roots) (.slice F1 R5.nodes.length i1) (.slice F2 R5.sites.length i2) (.int .i64 R5.edges) (.slice F4 R5.outer.length i4) (.slice F5 R5.inner.length i5) = V := ⟨_, rfl⟩
          have hbxV := sets6_box hbx5 (.int .i64 R5.roots) (.slice F1 R5.nodes.length i1) (.slice F2 R5.sites.length i2) (.int .i64 R5.edges) (.slice F4 R5.outer.length i4) (.slice F5 R5.inner.length i5)
          have hrV := (sets6_big hbx5 hr5 (.int .i64 R5.roots) (.slice F1 R5.nodes.length i1) (.slice F2 R5.sites.length i2) (.int .i64 R5.edges) (.slice F4 R5.outer.length i4) (.slice F5 R5.inner.length i5))
          have hbrV : BoxAt (sets6 w5 β (.int .i64 R5.roots) (.slice F1 R5.nodes.length i1) (.slice F2 R5.sites.length i2) (.int .i64 R5.edges) (.slice F4 R5.outer.length i4) (.slice F5 R5.inner.length i5)) w.heap.size 31 (.int .i64 0) (.slice none 0 0) (.slice none 0 0) (.int .i64 0) (.slice none 0 0) (.slice none 0 0) := World.rowIs.of_block (HBrY.out.on hb5) (sets6_block _ _ _ _ _ _ (by have := Hβ.out; omega))
          have hblV := sets6_below (HBlY.out.trans (hb5.mono HBlY.out.size)) (Nat.le_of_lt Hβ.out) (.int .i64 R5.roots) (.slice F1 R5.nodes.length i1) (.slice F2 R5.sites.length i2) (.int .i64 R5.edges) (.slice F4 R5.outer.length i4) (.slice F5 R5.inner.length i5)
          have hzV : (sets6 w5 β (.int .i64 R5.roots) (.slice F1 R5.nodes.length i1) (.slice F2 R5.sites.length i2) (.int .i64 R5.edges) (.slice F4 R5.outer.length i4) (.slice F5 R5.inner.length i5)).heap.size = w5.heap.size := sets6_size _ _ _ _ _ _ _ _
          rw [hV] at hbxV hrV hbrV hblV hzV
          have HZV : Hid (X.heap.size ≤ V.heap.size) := Lib.hid (by rw [hzV]; have := HZY.out; have := hb5.size; omega)
          have HRV := Lib.hid ((hrV.here).wide HZY.out (Nat.le_refl _))
          obtain ⟨k0, k1, k2, k3, k4, k5⟩ := BoxAt.get hbx5
          have f0 := World.rowIs.frozen hbx5 0
          have f1 := World.rowIs.frozen hbx5 1
          have f2 := World.rowIs.frozen hbx5 2
          have f3 := World.rowIs.frozen hbx5 3
          have f4 := World.rowIs.frozen hbx5 4
          have f5 := World.rowIs.frozen hbx5 5
          have hVe : (((((w5.setCell ⟨β, 0, none⟩ (.int .i64 R5.roots)).setCell ⟨β, 1, none⟩ (.slice F1 R5.nodes.length i1)).setCell ⟨β, 2, none⟩ (.slice F2 R5.sites.length i2)).setCell ⟨β, 3, none⟩ (.int .i64 R5.edges)).setCell ⟨β, 4, none⟩ (.slice F4 R5.outer.length i4)).setCell ⟨β, 5, none⟩ (.slice F5 R5.inner.length i5) = V := hV
          have HVe := Lib.hid hVe
          have HBxV := Lib.hid hbxV
          have HBrV := Lib.hid hbrV
          have HBlV := Lib.hid hblV
          clear hbx5 hV hbxV hrV hbrV hblV hzV hr5 hb5 hVe
          cases q5 with
          | false =>
            have hnone : caO cs (b0 :: t) = none := by rw [← caO_id HLt.out HQi.out, HRi.out]; exact caF_stop HCa.out HX.out HQ5.out
            have HR := Lib.hid (ca_none hnone)
            have zz := HBrV.out.get
            have h0 := World.rowIs.frozen HBrV.out 0
            have h1 := World.rowIs.frozen HBrV.out 1
            have h2 := World.rowIs.frozen HBrV.out 2
            have h3 := World.rowIs.frozen HBrV.out 3
            have h4 := World.rowIs.frozen HBrV.out 4
            have h5 := World.rowIs.frozen HBrV.out 5
            rw [← HVe.out] at zz h0 h1 h2 h3 h4 h5
            obtain ⟨z0, z1, z2, z3, z4, z5⟩ := zz
            clear hnone
            dsimp only
            repeat (first | go_values | go_skip | go_guarded | go_step | go_upon)
            rw [HVe.out]
            clear z0 z1 z2 z3 z4 z5 h0 h1 h2 h3 h4 h5 k0 k1 k2 k3 k4 k5 f0 f1 f2 f3 f4 f5
            obtain ⟨z0, z1, z2, z3, z4, z5⟩ := HBrV.out.get
            refine bodyPost_ret (v := .tuple #[.agg #[.int .i64 0, .slice none 0 0, .slice none 0 0, .int .i64 0, .slice none 0 0, .slice none 0 0], .bool false]) (by simp [results, Tryz.results9, go_sem, z0, z1, z2, z3, z4, z5]) rfl (by rw [HR.out.1, HR.out.2]; exact ⟨_, rfl, BigR.zero, sets6_below HBlV.out (by omega) _ _ _ _ _ _⟩)
          | true =>
            have hT5 : Tame R5 := by rw [← HR5.out]; exact cpR_tame HQ5.out HSa.out HSx.out
            have HT5 := Lib.hid hT5
            clear hT5
            go_wp2_with fail
            go_roundw
            case rel =>
              rw [HVe.out]
              refine ⟨j + 1, R5, F1, i1, F2, i2, F4, i4, F5, i5, by go_num, by omega, ?_, HT5.out.S, HT5.out.W, HBrV.out, HBxV.out, HRV.out, HBlV.out, HZV.out⟩
              rw [← HR5.out]
              exact caF_step HCa.out HX.out HQ5.out
            case measure => simp [intOf]; omega
        · obtain rfl : j = m := by omega
          have hfull : (b0 :: t).take j = b0 :: t := List.take_of_length_le (by rw [HLm.out]; omega)
          rw [hfull] at hca
          have hsome : caO cs (b0 :: t) = some a := by rw [← caO_id HLt.out HQi.out, HRi.out]; exact hca
          have HR := Lib.hid (ca_some hsome)
          obtain ⟨z0, z1, z2, z3, z4, z5⟩ := hbr.get
          obtain ⟨u0, u1, u2, u3, u4, u5⟩ := hbx.get
          have f0 := World.rowIs.frozen hbr 0
          have f1 := World.rowIs.frozen hbr 1
          have f2 := World.rowIs.frozen hbr 2
          have f3 := World.rowIs.frozen hbr 3
          have f4 := World.rowIs.frozen hbr 4
          have f5 := World.rowIs.frozen hbr 5
          have hz : w.heap.size ≤ X.heap.size := by have := HXz.out; omega
          have HRa := Lib.hid (((sets6_big hbr hra (.int .i64 a.roots) (.slice E1 a.nodes.length e1) (.slice E2 a.sites.length e2) (.int .i64 a.edges) (.slice E4 a.outer.length e4) (.slice E5 a.inner.length e5)).here).wide hz (Nat.le_refl _))
          have HBl := Lib.hid (sets6_below hbl (Nat.le_refl _) (.int .i64 a.roots) (.slice E1 a.nodes.length e1) (.slice E2 a.sites.length e2) (.int .i64 a.edges) (.slice E4 a.outer.length e4) (.slice E5 a.inner.length e5))
          clear hra hbl hbr hbx hca hsome hfull hSa hWa hz hsz
          go_wp2_with fail
          refine bodyPost_ret (v := .tuple #[(.agg #[.int .i64 a.roots, .slice E1 a.nodes.length e1, .slice E2 a.sites.length e2, .int .i64 a.edges, .slice E4 a.outer.length e4, .slice E5 a.inner.length e5]), .bool true]) (by simp [results, Tryz.results9, go_sem, z0, z1, z2, z3, z4, z5]) rfl (by rw [HR.out.1, HR.out.2]; exact ⟨_, rfl, HRa.out, HBl.out⟩)
end Go.Proofs.YtlpgldejmdiceabGreat.cai
end

section
namespace Go.Proofs.YtlpgldejmdiceabGreat.bgo
open kit bg sg opn strs only hb sig isig un over gn nm inn ht gd im pt marks eqs hc hi hw hn rs br bm bw cf lf ib isa lawb lw cl bgs bgm
open Go.RowKit Go.ChangeShapes Go.WideShapes Go.ChangeAt Go.Deep
set_option linter.unusedVariables false
set_option linter.unusedSimpArgs false
theorem bgs_big {bs : List Big} {b : Big} (h : bgsWt bs ≤ 1048576) (hb : b ∈ bs) : BigS b := by
  unfold bgsWt at h
  have := sumBy_mem bigWt hb
  exact bigS_of (by omega)
/-! ### opening -/
section
variable {H : Type} {enc : TypeId × Value → H} {P : Program} {W : World} {fuel : Nat}
/-- the parts of a struct, whatever its fields are -/
theorem struct_cuts {t : TypeId} {fs : Array Field} {cs : List Value} {x : DataW H × List MemPlace} (hs : P.underlying t = some (.struct fs))
    (h : DataW.trod enc P W 0 (fun _ => true) true fuel t cs = some x) : cs.length = P.cellsOf t ∧ ∃ m, ∀ (j : Nat) f, fs[j]? = some f → ∃ z, DataW.trod enc P W 0 (fun _ => true) true m f.type ((cs.drop f.offset).take (P.cellsOf f.type)) = some z ∧ ∀ p ∈ z.2, p ∈ x.2 := by
  obtain ⟨xs, m, _, hx, hlen, hxl, hf⟩ := DataW.trod_struct hs h
  refine ⟨hlen, m, fun j f hj => ?_⟩
  have hjl : j < fs.size := (Array.getElem?_eq_some_iff.1 hj).1
  have h1 := hf j f hj
  have hxj : xs[j]? = some (xs[j]'(by omega)) := List.getElem?_eq_getElem _
  refine ⟨_, h1.trans hxj, fun p hp => ?_⟩
  rw [hx]
  exact List.mem_flatMap.2 ⟨_, List.getElem_mem _, hp⟩
/-- the elements of an array -/
theorem array_cuts {t e : TypeId} {n : Nat} {cs : List Value} {x : DataW H × List MemPlace} (hs : P.underlying t = some (.array n e))
    (h : DataW.trod enc P W 0 (fun _ => true) true fuel t cs = some x) : cs.length = P.cellsOf t ∧ ∃ m, ∀ j, j < n → ∃ z, DataW.trod enc P W 0 (fun _ => true) true m e ((cs.drop (j * P.cellsOf e)).take (P.cellsOf e)) = some z ∧ ∀ p ∈ z.2, p ∈ x.2 := by
  obtain ⟨xs, m, _, hx, hlen, hxl, hf⟩ := DataW.trod_array hs h
  refine ⟨hlen, m, fun j hj => ?_⟩
  have h1 := hf j hj
  have hxj : xs[j]? = some (xs[j]'(by omega)) := List.getElem?_eq_getElem _
  refine ⟨_, h1.trans hxj, fun p hp => ?_⟩
  rw [hx]
  exact List.mem_flatMap.2 ⟨_, List.getElem_mem _, hp⟩
/-- a slice whose elements have more than one cell: each element's cells and their reading -/
theorem rows_cuts {t e : TypeId} {N : Nat} (ht : P.underlying t = some (.slice e)) (hC : P.cellsOf e = N) (hN : 0 < N) {v : Value} {y : DataW H × List MemPlace}
    (h : DataW.trod enc P W 0 (fun _ => true) true fuel t [v] = some y) (hlt : ∀ x ∈ y.2, x.block < W.heap.size) :
    ∃ A n c, v = .slice A n c ∧ n ≤ maxLen ∧ (0 < n → ∃ b off, A = some ⟨b, off, none⟩ ∧ b < W.heap.size ∧ ∀ i, i < n → ∃ m cs, cs.length = N ∧ (∀ (j : Nat) u, cs[j]? = some u → W.cell? ⟨b, off + i * N + j, none⟩ = some u) ∧
      ∃ z : DataW H × List MemPlace, DataW.trod enc P W 0 (fun _ => true) true m e cs = some z ∧ ∀ x ∈ z.2, x.block < W.heap.size) := by
  rcases open_slice ht h with ⟨hcs, _⟩ | ⟨a, len, cap, m, n, D, Pl, hcs, _, hl, hm, hmm, hx, hi⟩
  · simp at hcs
    exact ⟨none, 0, 0, hcs, by unfold maxLen; omega, fun h0 => absurd h0 (by omega)⟩
  · simp at hcs hmm
    rw [hC] at hi
    have hel : ∀ i, i < m → ∃ m' cs, cs.length = N ∧ (∀ (j : Nat) u, cs[j]? = some u → W.cell? (a.add (i * N + j)) = some u) ∧ ∃ z : DataW H × List MemPlace, DataW.trod enc P W 0 (fun _ => true) true m' e cs = some z ∧ ∀ p ∈ z.2, p ∈ Pl i := by
      intro i him
      obtain ⟨cs', hc, ht'⟩ := hi i him
      obtain ⟨_, hcl, hat⟩ := World.cells?_some hc
      have hlN : cs'.length = N := hcl
      refine ⟨_, cs', hlN, fun j u hu => ?_, _, ht', fun p hp => hp⟩
      rw [← hu, ← hat j (by have := (List.getElem?_eq_some_iff.1 hu).1; omega), Go.Deep.add_add]
    refine ⟨some a, len, cap, hcs, by omega, fun h0 => ?_⟩
    obtain ⟨m0, cs0, hl0, hf0, -⟩ := hel 0 (by omega)
    have hc0 := hf0 0 _ (List.getElem?_eq_getElem (by omega))
    obtain ⟨b, off, spot⟩ := a
    have hspot : spot = none := by simpa [Addr.add] using World.cell?_spot hc0
    subst hspot
    have hb : b < W.heap.size := by
      have := World.block_lt_of_cell? W _ hc0
      rw [opn.add_none] at this
      exact this
    refine ⟨b, off, rfl, hb, fun i hin => ?_⟩
    obtain ⟨m', cs, hl', hf, z, hz, hsub⟩ := hel i (by omega)
    refine ⟨m', cs, hl', fun j u hu => ?_, z, hz, fun x hxz => hlt x ?_⟩
    · rw [← hf j u hu, opn.add_none, Nat.add_assoc]
    · rw [hx]
      exact List.mem_append.2 (.inr (List.mem_flatMap.2 ⟨i, List.mem_range.2 (by omega), hsub x hxz⟩))
end
theorem cells6 : Tryz.prog.cellsOf 52 = 6 := by kernel_rfl
set_option maxRecDepth 100000 in
/-- six cells that are a Bigraph -/
theorem open_bigc {H : Type} {enc : TypeId × Value → H} {W : World} {fuel : Nat} {cs : List Value} {y : DataW H × List MemPlace}
    (hf : DataW.trod enc Tryz.prog W 0 (fun _ => true) true fuel 52 cs = some y) (hlt : ∀ x ∈ y.2, x.block < W.heap.size) : ∃ b, BigAt W W.heap.size (.agg cs.toArray) b ∧ BigW b := by
  obtain ⟨hl, m, hp⟩ := struct_parts (x := y) Tryz.underlying52 (by kernel_rfl) (by kernel_rfl) hf
  obtain ⟨u0, z0, e0, t0, l0⟩ := hp 0 _ rfl
  obtain ⟨u1, z1, e1, t1, l1⟩ := hp 1 _ rfl
  obtain ⟨u2, z2, e2, t2, l2⟩ := hp 2 _ rfl
  obtain ⟨u3, z3, e3, t3, l3⟩ := hp 3 _ rfl
  obtain ⟨u4, z4, e4, t4, l4⟩ := hp 4 _ rfl
  obtain ⟨u5, z5, e5, t5, l5⟩ := hp 5 _ rfl
  obtain ⟨r, x0, _, w0⟩ := DataW.trod_int Tryz.underlying3 t0
  obtain ⟨A1, n1, c1, ns, rfl, h1, b1, w1⟩ := nds_of Tryz.underlying49 Tryz.underlying100 (by kernel_rfl) (by kernel_rfl) Tryz.underlying3 Tryz.underlying3 rfl Tryz.underlying27 Tryz.underlying3 (by kernel_rfl) t1 (fun x hx => hlt x (l1 x hx))
  obtain ⟨A2, n2, c2, ss, rfl, h2, b2, w2⟩ := ints_of Tryz.underlying27 Tryz.underlying3 (by kernel_rfl) t2 (fun x hx => hlt x (l2 x hx))
  obtain ⟨g, x3, _, w3⟩ := DataW.trod_int Tryz.underlying3 t3
  obtain ⟨A4, n4, c4, os, rfl, h4, b4, w4⟩ := strs_of Tryz.underlying28 Tryz.underlying9 (by kernel_rfl) t4 (fun x hx => hlt x (l4 x hx))
  obtain ⟨A5, n5, c5, is, rfl, h5, b5, w5⟩ := wrs_of Tryz.underlying50 Tryz.underlying102 (by kernel_rfl) (by kernel_rfl) Tryz.underlying9 Tryz.underlying3 t5 (fun x hx => hlt x (l5 x hx))
  simp at x0 x3
  subst x0 x3
  have hcs : cs = [.int .i64 r, .slice A1 n1 c1, .slice A2 n2 c2, .int .i64 g, .slice A4 n4 c4, .slice A5 n5 c5] := by
    have hl' : cs.length = 6 := hl
    match cs, hl' with
    | [a, b, c, d, e, f], _ =>
      simp at e0 e1 e2 e3 e4 e5
      simp [e0, e1, e2, e3, e4, e5]
  subst hcs
  have q1 := h1.1
  have q2 := h2.len
  have q4 := h4.strlen
  have q5 := h5.1
  exact ⟨⟨r, ns, ss, g, os, is⟩, ⟨A1, n1, c1, A2, n2, c2, A4, n4, c4, A5, n5, c5, rfl, h1, h2, h4, h5⟩, w0, w3, by show ns.length ≤ _; omega, w1, by show ss.length ≤ _; omega, w2, by show os.length ≤ _; omega, w4, by show is.length ≤ _; omega, w5⟩
set_option maxRecDepth 100000 in
theorem open_bgsc {H : Type} {enc : TypeId × Value → H} {W : World} {fuel : Nat} {v : Value} {y : DataW H × List MemPlace}
    (h : DataW.trod enc Tryz.prog W 0 (fun _ => true) true fuel 23 [v] = some y) (hlt : ∀ x ∈ y.2, x.block < W.heap.size) : ∃ A n c bs, v = .slice A n c ∧ BgsAt W W.heap.size A n bs ∧ BgsW bs := by
  obtain ⟨A, n, c, rfl, hn, hr⟩ := rows_cuts Tryz.underlying23 cells6 (by decide) h hlt
  by_cases hz : 0 < n
  · obtain ⟨b, off, rfl, hb, hi⟩ := hr hz
    obtain ⟨gs, hl, hgs⟩ := list_of (α := Big) (n := n) (Q := fun k x => (∃ v0 v1 v2 v3 v4 v5, W.cell? ⟨b, off + k * 6, none⟩ = some v0 ∧ W.cell? ⟨b, off + k * 6 + 1, none⟩ = some v1 ∧ W.cell? ⟨b, off + k * 6 + 2, none⟩ = some v2 ∧ W.cell? ⟨b, off + k * 6 + 3, none⟩ = some v3 ∧ W.cell? ⟨b, off + k * 6 + 4, none⟩ = some v4 ∧ W.cell? ⟨b, off + k * 6 + 5, none⟩ = some v5 ∧ BigAt W W.heap.size (.agg #[v0, v1, v2, v3, v4, v5]) x) ∧ BigW x) (fun i hin => by
      obtain ⟨m, cs, hcl, hat, z, hz2, hzl⟩ := hi i hin
      obtain ⟨x, hx, hw⟩ := open_bigc hz2 hzl
      match cs, hcl with
      | [a0, a1, a2, a3, a4, a5], _ =>
        exact ⟨x, ⟨a0, a1, a2, a3, a4, a5, hat 0 _ rfl, hat 1 _ rfl, hat 2 _ rfl, hat 3 _ rfl, hat 4 _ rfl, hat 5 _ rfl, by simpa using hx⟩, hw⟩)
    refine ⟨_, n, c, gs, rfl, ⟨hl, fun _ => ⟨b, off, rfl, hb, fun k x hk => (hgs k x hk).1⟩⟩, by omega, fun x hx => ?_⟩
    obtain ⟨k, hk⟩ := List.getElem?_of_mem hx
    exact (hgs k x hk).2
  · have : n = 0 := by omega
    subst this
    exact ⟨A, 0, c, [], rfl, ⟨rfl, fun h => absurd h (by omega)⟩, by simp [maxLen], by simp⟩
set_option maxRecDepth 100000 in
/-- an argument that is a list of Bigraphs -/
theorem open_bgs {H : Type} {enc : TypeId × Value → H} {W : World} {base : Nat} {v : Value} {d : DataW H} {p : List MemPlace} (hv : Value.okWide Tryz.prog W .any base 23 v)
    (h : DataW.Trod enc Tryz.prog W 0 (fun _ => true) true 23 v d p) (hlt : ∀ x ∈ p, x.block < W.heap.size) : ∃ A n c bs, v = .slice A n c ∧ BgsAt W W.heap.size A n bs ∧ BgsW bs := by
  obtain ⟨A, n, c, rfl⟩ := okWide_slice Tryz.underlying23 hv
  obtain ⟨fuel, hf⟩ := h
  exact open_bgsc (y := (d, p)) (by simpa [Value.cells] using hf) hlt

/-! ### rows of one's own -/
/-- a row of Bigraphs in the blocks from lo to hi -/
def BgsIn (w : World) (lo hi : Nat) (v : Value) (bs : List Big) : Prop :=
  hi ≤ w.heap.size ∧ ∃ g, v = .slice (some ⟨g, 0, none⟩) bs.length bs.length ∧ lo ≤ g ∧ g < hi ∧
    ∃ (f : Nat → Value) (L : Nat → Nat), w.rowIs g 31 (bs.length * 6) f ∧ (∀ j, j ≤ bs.length → g < L j ∧ L j ≤ hi) ∧ ∀ (j : Nat) b, j < bs.length → bs[j]? = some b → BigOwn w (L j) (L (j + 1)) (aggAt f j) b
/-- a row of Bigraphs that a function may be given -/
def BgsHere (w : World) (v : Value) (bs : List Big) : Prop := ∃ g, v = .slice (some ⟨g, 0, none⟩) bs.length bs.length ∧ BgsK w g bs.length bs.length bs ∧ g < w.heap.size
section
variable {w w' : World} {lo hi l r : Nat} {v : Value} {bs : List Big}
theorem bgsIn_blocks (h : BgsIn w lo hi v bs) (hz : w.heap.size ≤ w'.heap.size) (hb : ∀ i, lo ≤ i → i < hi → w'.heap[i]? = w.heap[i]?) : BgsIn w' lo hi v bs := by
  obtain ⟨h0, g, rfl, h1, h2, f, L, hf, hL, hbb⟩ := h
  exact ⟨Nat.le_trans h0 hz, g, rfl, h1, h2, f, L, hf.of_block (hb g h1 h2), hL, fun j b hj hjb => (hbb j b hj hjb).blocks (fun i h3 h4 => hb i (by have := (hL j (by omega)).1; omega) (by have := (hL (j + 1) (by omega)).2; omega))⟩
theorem BgsIn.on (h : BgsIn w lo hi v bs) (hb : Below w.heap.size w w') : BgsIn w' lo hi v bs := bgsIn_blocks h hb.size (fun i _ h2 => hb.block i (Nat.lt_of_lt_of_le h2 h.1))
theorem BgsIn.far (h : BgsIn w lo hi v bs) (ho : Only l r w w') (hr : r ≤ lo ∨ hi ≤ l) : BgsIn w' lo hi v bs := bgsIn_blocks h ho.size (fun i h1 h2 => ho.block i (Nat.lt_of_lt_of_le h2 h.1) (by omega))
theorem bgsIn_here (h : BgsIn w lo hi v bs) : BgsHere w v bs := by
  obtain ⟨h0, g, rfl, h1, h2, f, L, hf, hL, hbb⟩ := h
  exact ⟨g, rfl, ⟨f, L, hf, fun j hj => ⟨(hL j hj).1, Nat.le_trans (hL j hj).2 h0⟩, hbb⟩, Nat.lt_of_lt_of_le h2 h0⟩
theorem bgsIn_at (h : BgsIn w lo hi v bs) : ∃ A c, v = .slice A bs.length c ∧ BgsAt w w.heap.size A bs.length bs := by
  obtain ⟨g, rfl, hk, hg⟩ := bgsIn_here h
  exact ⟨_, _, rfl, hk.at rfl hg⟩
end
theorem toBS2_any (A : Option Addr) (n c : Nat) (bs : List Big) (w : World) (h : BgsAt w w.heap.size A n bs) (hn : n ≤ 1048576) (hw : ∀ b ∈ bs, BigS b) :
    Calls Tryz.prog 8 #[.slice A n c] w fun e w' => ∃ X, e = .returned X ∧ BgsIn w' w.heap.size w'.heap.size X bs ∧ Below w.heap.size w w' := by
  refine (toBS_any A n c bs w h hn hw).mono ?_
  rintro e w1 ⟨g, rfl, hk, hg, hgl, hb⟩
  obtain ⟨f, L, hrow, hL, hf⟩ := hk
  obtain rfl := h.1
  exact ⟨_, rfl, ⟨Nat.le_refl _, g, rfl, hg, hgl, f, L, hrow, hL, hf⟩, hb⟩
theorem eqBSIn_any (v v' : Value) (bs : List Big) (w : World) (lo hi lo' hi' : Nat) (h : BgsIn w lo hi v bs) (h' : BgsIn w lo' hi' v' bs) (hn : bs.length ≤ maxLen) (hw : ∀ b ∈ bs, BigW b ∧ b.outer.length ≤ 1048576) :
    Calls Tryz.prog 12 #[v, v'] w fun e w' => e = .returned (.bool true) ∧ Below w.heap.size w w' := by
  obtain ⟨A, c, rfl, h1⟩ := bgsIn_at h
  obtain ⟨A', c', rfl, h2⟩ := bgsIn_at h'
  exact eqBS_any A A' _ c c' bs w _ _ h1 h2 (Nat.le_refl _) (Nat.le_refl _) hn hw
theorem markBSIn_any (v : Value) (bs : List Big) (k : Int) (w : World) (lo hi : Nat) (h : BgsIn w lo hi v bs) (h0 : 0 < k) (h1 : k + 2 * bgsWt bs ≤ 3200000) (hw1 : bgsWt bs ≤ 1048576) :
    Calls Tryz.prog 14 #[v, .int .i64 k] w fun e w' => ∃ r : Int, e = .returned (.int .i64 r) ∧ 0 < r ∧ r ≤ k + 2 * bgsWt bs ∧ Only lo hi w w' := by
  obtain ⟨a0, g, rfl, a1, a2, f, L, hf, hL, hbb⟩ := h
  refine (markBS_any2 g hi bs.length bs k w hf hL a0 hbb rfl h0 h1 hw1).mono ?_
  rintro e w1 ⟨r, rfl, hr0, hr1, ho⟩
  exact ⟨r, rfl, hr0, hr1, ho.wide a1 (Nat.le_refl _)⟩
end Go.Proofs.YtlpgldejmdiceabGreat.bgo
end

section
namespace Go.Proofs.YtlpgldejmdiceabGreat.cas
open kit bg sg opn strs only hb sig isig un over gn nm inn ht gd im pt marks eqs hc hi hw hn rs br bm bw cf lf ib isa lawb lw cl rt ix tg rl ed tp rtg uw nj cg rk nk wk ek tm gv lep mrp mri mrs pl ft co idn idz bgs cax cai bgo ow mb lep
open uv (cmp_any)
open Go.RowKit
set_option linter.unusedVariables false
set_option linter.unusedSimpArgs false
theorem ca_bad {cs : List Ctl} {b : Big} {t : List Big} (h : bigB cs b = false) : caO cs (b :: t) = none := by
  show (if (decide (t.length ≤ 7) && bigB cs b) = true then caF cs (some b) t else none) = none
  rw [h, Bool.and_false]
  rfl
theorem ca_good {cs : List Ctl} {b : Big} {t : List Big} (hl : t.length ≤ 7) (h : bigB cs b = true) : caO cs (b :: t) = caF cs (some b) t := by
  show (if (decide (t.length ≤ 7) && bigB cs b) = true then caF cs (some b) t else none) = _
  rw [h, decide_eq_true hl]
  rfl
set_option maxRecDepth 20000 in
set_option maxHeartbeats 12800000 in
theorem sCa_any (A : Option Addr) (n c : Nat) (cs : List Ctl) (g m : Nat) (bs : List Big) (w : World) (hC : CtlsAt w w.heap.size A n cs) (hn : n ≤ 1048576) (hs : ∀ c ∈ cs, c.name.size ≤ 1048576) (hB : BgsK w g m m bs) (hl : bs.length = m) (hg : g < w.heap.size) (hm : m ≤ 1048576) (hS : ∀ b ∈ bs, BigS b) (hW : ∀ b ∈ bs, BigW b) :
    Calls Tryz.prog 6 #[.slice A n c, .slice (some ⟨g, 0, none⟩) m m] w (BigPost (caQ cs bs) (caR cs bs) w) := by
  have hb0 := (Below.refl w.heap.size w).alloc (Nat.le_refl _) (.cells #[.int .i64 0, .slice none 0 0, .slice none 0 0, .int .i64 0, .slice none 0 0, .slice none 0 0] 31)
  have HBr0 : BoxAt (w.alloc (.cells #[.int .i64 0, .slice none 0 0, .slice none 0 0, .int .i64 0, .slice none 0 0, .slice none 0 0] 31)) w.heap.size 31 (.int .i64 0) (.slice none 0 0) (.slice none 0 0) (.int .i64 0) (.slice none 0 0) (.slice none 0 0) := six_new w _ _ _ _ _ _ _
  obtain ⟨X, hX⟩ : ∃ X, w.alloc (.cells #[.int .i64 0, .slice none 0 0, .slice none 0 0, .int .i64 0, .slice none 0 0, .slice none 0 0] 31) = X := ⟨_, rfl⟩
  have hXz : X.heap.size = w.heap.size + 1 := by rw [← hX]; simp
  rw [hX] at HBr0 hb0
  have HXq := Lib.hid hX
  have HB0 := Lib.hid hb0
  have HBr := Lib.hid HBr0
  have HXz := Lib.hid hXz
  have HEl := Lib.hid (fun (Y : World) (hY : Below w.heap.size w Y) (k : Nat) (x : Big) (hkn : k < m) (hk : bs[k]? = some x) => elem hB hg hY hkn hk)
  have HC := Lib.hid (fun (Y : World) (hY : Below w.heap.size w Y) => ((hC.below hY).wide hY.size : CtlsAt Y Y.heap.size A n cs))
  have HS := Lib.hid hS
  have HW := Lib.hid hW
  have HG := Lib.hid hg
  clear hX hb0 HBr0 hXz hB hC hS hW hg
  obtain ⟨z0, z1, z2, z3, z4, z5⟩ := HBr.out.get
  have CWn := in_any (m : Int) 1 8 X
  cases hin : inb (m : Int) 1 8 with
  | false =>
    have HR := Lib.hid (ca_none (cs := cs) (ca_out (by rw [hl]; exact hin)))
    rw [hin] at CWn
    clear hin
    go_enter Tryz.func6, Tryz.ntmps6
    go_wp2_with fail
    rw [HXq.out]
    go_wp2_with fail
    refine CWn.mono ?_
    rintro e w' ⟨rfl, rfl⟩
    have f0 := World.rowIs.frozen HBr.out 0
    have f1 := World.rowIs.frozen HBr.out 1
    have f2 := World.rowIs.frozen HBr.out 2
    have f3 := World.rowIs.frozen HBr.out 3
    have f4 := World.rowIs.frozen HBr.out 4
    have f5 := World.rowIs.frozen HBr.out 5
    go_wp2_with fail
    refine bodyPost_ret (v := .tuple #[.agg #[.int .i64 0, .slice none 0 0, .slice none 0 0, .int .i64 0, .slice none 0 0, .slice none 0 0], .bool false]) (by simp [results, Tryz.results6, go_sem, z0, z1, z2, z3, z4, z5]) rfl (by rw [HR.out.1, HR.out.2]; exact ⟨_, rfl, BigR.zero, sets6_below HB0.out (by omega) _ _ _ _ _ _⟩)
  | true =>
    rw [hin] at CWn
    have hin := inb_true hin
    obtain ⟨b0, t, rfl⟩ : ∃ b0 t, bs = b0 :: t := by
      cases bs with
      | nil => rw [List.length_nil] at hl; omega
      | cons b t => exact ⟨b, t, rfl⟩
    have htl : t.length ≤ 7 := by rw [List.length_cons] at hl; omega
    have hm0 : (0 : Int) < (m : Int) := by omega
    have hm1 : 0 < m := by omega
    have hm2 : (1 : Int) ≤ (m : Int) := by omega
    have hmem : b0 ∈ b0 :: t := List.mem_cons_self
    have HS0 := Lib.hid (HS.out b0 hmem)
    have HW0 := Lib.hid (HW.out b0 hmem)
    obtain ⟨g1, g2, g4, g5, ⟨x0, x1, x2, x3, x4, x5⟩, hA0, hN0⟩ := HEl.out X HB0.out 0 b0 (by omega) rfl
    simp only [Nat.zero_mul, Nat.zero_add] at x0 x1 x2 x3 x4 x5
    have CG := l2Good_any A n c cs _ b0 X (HC.out X HB0.out) hA0 hn hs HS0.out HW0.out
    have HLt := Lib.hid htl
    have HLm := Lib.hid hl
    clear hA0 hN0 hmem htl hl
    go_enter Tryz.func6, Tryz.ntmps6
    go_wp2_with fail
    rw [HXq.out]
    go_wp2_with fail
    refine CWn.mono ?_
    rintro e w' ⟨rfl, rfl⟩
    clear CWn
    go_wp2_with fail
    refine CG.mono ?_
    rintro e w1 ⟨rfl, hb1⟩
    clear CG x0 x1 x2 x3 x4 x5 z0 z1 z2 z3 z4 z5
    have HB1 := Lib.hid (HB0.out.trans (hb1.mono HB0.out.size))
    have HBr1 := Lib.hid (HBr.out.on hb1)
    have hz1 := hb1.size
    clear hb1
    obtain ⟨z0, z1, z2, z3, z4, z5⟩ := HBr1.out.get
    cases hgq : bigB cs b0 with
    | false =>
      have HR := Lib.hid (ca_none (ca_bad (t := t) hgq))
      clear hgq
      have f0 := World.rowIs.frozen HBr1.out 0
      have f1 := World.rowIs.frozen HBr1.out 1
      have f2 := World.rowIs.frozen HBr1.out 2
      have f3 := World.rowIs.frozen HBr1.out 3
      have f4 := World.rowIs.frozen HBr1.out 4
      have f5 := World.rowIs.frozen HBr1.out 5
      go_wp2_with fail
      refine bodyPost_ret (v := .tuple #[.agg #[.int .i64 0, .slice none 0 0, .slice none 0 0, .int .i64 0, .slice none 0 0, .slice none 0 0], .bool false]) (by simp [results, Tryz.results6, go_sem, z0, z1, z2, z3, z4, z5]) rfl (by rw [HR.out.1, HR.out.2]; exact ⟨_, rfl, BigR.zero, sets6_below HB1.out (by omega) _ _ _ _ _ _⟩)
    | true =>
      have HGq := Lib.hid hgq
      clear hgq
      obtain ⟨h1, h2, h4, h5, ⟨x0, x1, x2, x3, x4, x5⟩, hA0, hN0⟩ := HEl.out w1 HB1.out 0 b0 (by omega) rfl
      simp only [Nat.zero_mul, Nat.zero_add] at x0 x1 x2 x3 x4 x5
      have CO := ow_any _ cs b0 w1 hA0 hN0 HGq.out
      clear hA0 hN0
      go_wp2_with fail
      refine CO.mono ?_
      rintro e w2 ⟨v2, rfl, hr2, hb2⟩
      obtain ⟨D1, d1, D2, d2, D4, d4, D5, d5, rfl⟩ := hr2.shape
      have hb3 := (Below.refl w2.heap.size w2).alloc (Nat.le_refl _) (.cells #[.int .i64 b0.roots, .slice D1 b0.nodes.length d1, .slice D2 b0.sites.length d2, .int .i64 b0.edges, .slice D4 b0.outer.length d4, .slice D5 b0.inner.length d5] 31)
      have hbx3 : BoxAt (w2.alloc (.cells #[.int .i64 b0.roots, .slice D1 b0.nodes.length d1, .slice D2 b0.sites.length d2, .int .i64 b0.edges, .slice D4 b0.outer.length d4, .slice D5 b0.inner.length d5] 31)) w2.heap.size 31 (.int .i64 b0.roots) (.slice D1 b0.nodes.length d1) (.slice D2 b0.sites.length d2) (.int .i64 b0.edges) (.slice D4 b0.outer.length d4) (.slice D5 b0.inner.length d5) := six_new w2 _ _ _ _ _ _ _
      obtain ⟨W3, hW3⟩ : ∃ W3, w2.alloc (.cells #[.int .i64 b0.roots, .slice D1 b0.nodes.length d1, .slice D2 b0.sites.length d2, .int .i64 b0.edges, .slice D4 b0.outer.length d4, .slice D5 b0.inner.length d5] 31) = W3 := ⟨_, rfl⟩
      rw [hW3] at hb3 hbx3
      have HW3 := Lib.hid hW3
      have hz2 := hb2.size
      have HB3 := Lib.hid ((HB1.out.trans (hb2.mono HB1.out.size)).trans (hb3.mono (Nat.le_trans HB1.out.size hz2)))
      have HBr3 := Lib.hid ((HBr1.out.on hb2).on hb3)
      have HBx3 := Lib.hid hbx3
      have HRb3 := Lib.hid ((hr2.on hb3).wide (lo' := X.heap.size) (hi' := W3.heap.size) hz1 hb3.size)
      have HZ3 : Hid (X.heap.size ≤ W3.heap.size) := Lib.hid (Nat.le_trans hz1 (Nat.le_trans hz2 hb3.size))
      have Hβ : Hid (w.heap.size < w2.heap.size) := Lib.hid (by have := HXz.out; omega)
      obtain ⟨β, hβd⟩ : ∃ β, w2.heap.size = β := ⟨_, rfl⟩
      have Hβd := Lib.hid hβd
      clear CO x0 x1 x2 x3 x4 x5 z0 z1 z2 z3 z4 z5 hW3 hb2 hb3 hr2 hbx3 hβd
      go_wp2_with fail
      rw [HW3.out, Hβd.out]
      rw [Hβd.out] at HBx3 Hβ
      go_loopw [7, 8, 9] (fun i _ _ wr => ∃ (j : Nat) (a : Big) (E1 : Option Addr) (e1 : Nat) (E2 : Option Addr) (e2 : Nat) (E4 : Option Addr) (e4 : Nat) (E5 : Option Addr) (e5 : Nat), i = .int .i64 j ∧ 1 ≤ j ∧ j ≤ m ∧ caF cs (some b0) (t.take (j - 1)) = some a ∧ BigS a ∧ BigW a ∧ BoxAt wr w.heap.size 31 (.int .i64 0) (.slice none 0 0) (.slice none 0 0) (.int .i64 0) (.slice none 0 0) (.slice none 0 0) ∧ BoxAt wr β 31 (.int .i64 a.roots) (.slice E1 a.nodes.length e1) (.slice E2 a.sites.length e2) (.int .i64 a.edges) (.slice E4 a.outer.length e4) (.slice E5 a.inner.length e5) ∧ BigR wr X.heap.size wr.heap.size (.agg #[.int .i64 a.roots, .slice E1 a.nodes.length e1, .slice E2 a.sites.length e2, .int .i64 a.edges, .slice E4 a.outer.length e4, .slice E5 a.inner.length e5]) a ∧ Below w.heap.size w wr ∧ X.heap.size ≤ wr.heap.size) (fun i _ _ _ => m - (intOf i).toNat)
      case atStart => exact ⟨1, b0, D1, d1, D2, d2, D4, d4, D5, d5, rfl, Nat.le_refl _, by omega, rfl, HS0.out, HW0.out, HBr3.out, HBx3.out, HRb3.out, HB3.out, HZ3.out⟩
      case round =>
        obtain ⟨j, a, E1, e1, E2, e2, E4, e4, E5, e5, rfl, hj1, hj, hca, hSa, hWa, hbr, hbx, hra, hbl, hsz⟩ := hrel
        by_cases hlt : j < m
        · obtain ⟨x, hx⟩ : ∃ x, (b0 :: t)[j]? = some x := ⟨_, List.getElem?_eq_getElem (by rw [HLm.out]; exact hlt)⟩
          have hxt : t[j - 1]? = some x := by
            obtain ⟨i, rfl⟩ : ∃ i, j = i + 1 := ⟨j - 1, by omega⟩
            simpa using hx
          have hxm := List.mem_of_getElem? hx
          obtain ⟨g1, g2, g4, g5, ⟨y0, y1, y2, y3, y4, y5⟩, hxA, hxN⟩ := HEl.out wr hbl j x hlt hx
          have hgr : g < wr.heap.size := Nat.lt_of_lt_of_le HG.out hbl.size
          have CC := Lib.hid (fun (Y : World) (hY : Below wr.heap.size wr Y) => cmp_any A n c cs _ a _ x Y (HC.out Y (hbl.trans (hY.mono hbl.size))) hn hs ((hra.on hY).at.wide hY.size) hSa hWa (nil_big hra) ((hxA.below hY).wide hY.size) (HS.out x hxm) (HW.out x hxm) hxN)
          have HSt := Lib.hid (fun (Y : World) (hY : Below wr.heap.size wr Y) => And.intro (hbx.on hY).get (And.intro ((hY.cell (p := ⟨g, j * 6, none⟩) hgr).trans y0) (And.intro ((hY.cell (p := ⟨g, j * 6 + 1, none⟩) hgr).trans y1) (And.intro ((hY.cell (p := ⟨g, j * 6 + 2, none⟩) hgr).trans y2) (And.intro ((hY.cell (p := ⟨g, j * 6 + 3, none⟩) hgr).trans y3) (And.intro ((hY.cell (p := ⟨g, j * 6 + 4, none⟩) hgr).trans y4) ((hY.cell (p := ⟨g, j * 6 + 5, none⟩) hgr).trans y5)))))))
          have HBrR := Lib.hid hbr
          have HBxR := Lib.hid hbx
          have HBlR := Lib.hid hbl
          have HZR := Lib.hid hsz
          have HSx := Lib.hid (HS.out x hxm)
          have HSa := Lib.hid hSa
          have HCa := Lib.hid hca
          have HX := Lib.hid hxt
          obtain ⟨q5, hq5⟩ : ∃ q, cpQ cs a x = q := ⟨_, rfl⟩
          obtain ⟨R5, hR5⟩ : ∃ r, cpR cs a x = r := ⟨_, rfl⟩
          rw [hq5, hR5] at CC
          have HQ5 := Lib.hid hq5
          have HR5 := Lib.hid hR5
          clear hra hbr hbl hsz hSa hWa hca hx hxt hxm hxA hxN hq5 hR5
          obtain ⟨u0, u1, u2, u3, u4, u5⟩ := hbx.get
          clear hbx
          go_wp2_with fail
          go_cut [8, 9] from 33 to 42 (fun s6 s7 wx => GotBox wr q5 R5 s6 s7 wx)
          case first =>
            have hkD := (Below.refl wr.heap.size wr).drew
            go_region_held3 (fun w' => (w'.cell? ⟨β, 0, none⟩ = some (.int .i64 a.roots) ∧ w'.cell? ⟨β, 1, none⟩ = some (.slice E1 a.nodes.length e1) ∧ w'.cell? ⟨β, 2, none⟩ = some (.slice E2 a.sites.length e2) ∧ w'.cell? ⟨β, 3, none⟩ = some (.int .i64 a.edges) ∧ w'.cell? ⟨β, 4, none⟩ = some (.slice E4 a.outer.length e4) ∧ w'.cell? ⟨β, 5, none⟩ = some (.slice E5 a.inner.length e5)) ∧ (w'.cell? ⟨g, j * 6, none⟩ = some (.int .i64 x.roots) ∧ w'.cell? ⟨g, j * 6 + 1, none⟩ = some (.slice (some ⟨g1, 0, none⟩) x.nodes.length x.nodes.length) ∧ w'.cell? ⟨g, j * 6 + 2, none⟩ = some (.slice (some ⟨g2, 0, none⟩) x.sites.length x.sites.length) ∧ w'.cell? ⟨g, j * 6 + 3, none⟩ = some (.int .i64 x.edges) ∧ w'.cell? ⟨g, j * 6 + 4, none⟩ = some (.slice (some ⟨g4, 0, none⟩) x.outer.length x.outer.length) ∧ w'.cell? ⟨g, j * 6 + 5, none⟩ = some (.slice (some ⟨g5, 0, none⟩) x.inner.length x.inner.length))) (first
              | with_reducible exact HSt.out _ (((((((hkZ).setCell hβ _).setCell hβ _).setCell hβ _).setCell hβ _).setCell hβ _).setCell hβ _)
              | with_reducible exact HSt.out _ (((((((hkZ.alloc hkZ.size _).setCell hkZ.size _).setCell hkZ.size _).setCell hkZ.size _).setCell hkZ.size _).setCell hkZ.size _).setCell hkZ.size _)
              | with_reducible exact HSt.out _ hkZ
              | with_reducible exact HSt.out _ (hkZ.alloc hkZ.size _)
              | with_reducible exact HSt.out _ hkD
              | with_reducible exact HSt.out _ ((Below.refl wr.heap.size wr).alloc (Nat.le_refl _) _).drew)
              (first
               | (go_at_call 22; refine (CC.out _ (((Below.refl wr.heap.size wr).alloc (Nat.le_refl _) (.cells #[.int .i64 0, .slice none 0 0, .slice none 0 0, .int .i64 0, .slice none 0 0, .slice none 0 0] 31)).drew)).mono ?_; rintro e w4 ⟨vb0, rfl, hrb0, hb⟩; obtain ⟨D1, d1, D2, d2, D4, d4, D5, d5, rfl⟩ := hrb0.shape; have hkZ := (((Below.refl wr.heap.size wr).alloc (Nat.le_refl _) (.cells #[.int .i64 0, .slice none 0 0, .slice none 0 0, .int .i64 0, .slice none 0 0, .slice none 0 0] 31)).drew).trans (hb.mono (((Below.refl wr.heap.size wr).alloc (Nat.le_refl _) (.cells #[.int .i64 0, .slice none 0 0, .slice none 0 0, .int .i64 0, .slice none 0 0, .slice none 0 0] 31)).drew).size); have hrb0 := hrb0.wide (lo' := wr.heap.size) (((Below.refl wr.heap.size wr).alloc (Nat.le_refl _) (.cells #[.int .i64 0, .slice none 0 0, .slice none 0 0, .int .i64 0, .slice none 0 0, .slice none 0 0] 31)).drew).size (Nat.le_refl _); have hβ := Nat.le_refl wr.heap.size; have hrow := (World.rowIs.drew (six_new wr (.int .i64 0) (.slice none 0 0) (.slice none 0 0) (.int .i64 0) (.slice none 0 0) (.slice none 0 0) 31)).of_block (hb.block _ (by simp)); obtain ⟨o0, o1, o2, o3, o4, o5⟩ := row6 hrow; have f0 := hrow.frozen 0; have f1 := hrow.frozen 1; have f2 := hrow.frozen 2; have f3 := hrow.frozen 3; have f4 := hrow.frozen 4; have f5 := hrow.frozen 5; clear hb)
               | (go_at_call 22; refine (CC.out _ hkD).mono ?_; rintro e w4 ⟨vb0, rfl, hrb0, hb⟩; obtain ⟨D1, d1, D2, d2, D4, d4, D5, d5, rfl⟩ := hrb0.shape; have hkZ := hkD.trans (hb.mono hkD.size); have hrb0 := hrb0.wide (lo' := wr.heap.size) hkD.size (Nat.le_refl _); clear hb))
            all_goals (go_wp2_with fail; go_meet)
            all_goals (first | with_reducible exact got_late q5 hrb0 (Nat.le_refl _) hkZ | with_reducible exact got_early q5 hrow hβ hrb0 (Nat.le_refl _) hkZ)
          case rest =>
          clear y0 y1 y2 y3 y4 y5 u0 u1 u2 u3 u4 u5
          obtain ⟨w4, hwc⟩ : ∃ x, wc = x := ⟨_, rfl⟩
          rw [hwc] at hcut ⊢
          clear hwc
          obtain ⟨γ, F1, i1, F2, i2, F4, i4, F5, i5, rfl, rfl, hγ, hbox, hrb, hb⟩ := hcut
          have HB4 := Lib.hid (HBlR.out.trans (hb.mono HBlR.out.size))
          have HBr4 := Lib.hid (HBrR.out.on hb)
          have HBx4 := Lib.hid (HBxR.out.on hb)
          have HBn4 := Lib.hid hbox
          have HRb4 := Lib.hid hrb
          have HZ4 : Hid (X.heap.size ≤ w4.heap.size) := Lib.hid (Nat.le_trans HZR.out hb.size)
          clear hb hbox hrb hγ HBrR HBxR HSt CC
          cases q5 with
          | false =>
            have hnone : caO cs (b0 :: t) = none := by rw [ca_good HLt.out HGq.out]; exact caF_stop HCa.out HX.out HQ5.out
            have HR := Lib.hid (ca_none hnone)
            clear hnone
            obtain ⟨z0, z1, z2, z3, z4, z5⟩ := HBr4.out.get
            have f0 := World.rowIs.frozen HBr4.out 0
            have f1 := World.rowIs.frozen HBr4.out 1
            have f2 := World.rowIs.frozen HBr4.out 2
            have f3 := World.rowIs.frozen HBr4.out 3
            have f4 := World.rowIs.frozen HBr4.out 4
            have f5 := World.rowIs.frozen HBr4.out 5
            go_wp2_with fail
            refine bodyPost_ret (v := .tuple #[.agg #[.int .i64 0, .slice none 0 0, .slice none 0 0, .int .i64 0, .slice none 0 0, .slice none 0 0], .bool false]) (by simp [results, Tryz.results6, go_sem, z0, z1, z2, z3, z4, z5]) rfl (by rw [HR.out.1, HR.out.2]; exact ⟨_, rfl, BigR.zero, sets6_below HB4.out (by omega) _ _ _ _ _ _⟩)
          | true =>
            have hT5 : Tame R5 := by rw [← HR5.out]; exact cpR_tame HQ5.out HSa.out HSx.out
            have HT5 := Lib.hid hT5
            have hbx5 := HBx4.out
            obtain ⟨V, hV⟩ : ∃ V, sets6 w4 β (.int .i64 R5.roots) (.slice F1 R5.nodes.length i1) (.slice F2 R5.sites.length i2) (.int .i64 R5.edges) (.slice F4 R5.outer.length i4) (.slice F5 R5.inner.length i5) = V := ⟨_, rfl⟩
            have hbxV := sets6_box hbx5 (.int .i64 R5.roots) (.slice F1 R5.nodes.length i1) (.slice F2 R5.sites.length i2) (.int .i64 R5.edges) (.slice F4 R5.outer.length i4) (.slice F5 R5.inner.length i5)
            have hrV := (sets6_big hbx5 HRb4.out (.int .i64 R5.roots) (.slice F1 R5.nodes.length i1) (.slice F2 R5.sites.length i2) (.int .i64 R5.edges) (.slice F4 R5.outer.length i4) (.slice F5 R5.inner.length i5))
            have hbrV : BoxAt (sets6 w4 β (.int .i64 R5.roots) (.slice F1 R5.nodes.length i1) (.slice F2 R5.sites.length i2) (.int .i64 R5.edges) (.slice F4 R5.outer.length i4) (.slice F5 R5.inner.length i5)) w.heap.size 31 (.int .i64 0) (.slice none 0 0) (.slice none 0 0) (.int .i64 0) (.slice none 0 0) (.slice none 0 0) := World.rowIs.of_block HBr4.out (sets6_block _ _ _ _ _ _ (by have := Hβ.out; omega))
            have hblV := sets6_below HB4.out (Nat.le_of_lt Hβ.out) (.int .i64 R5.roots) (.slice F1 R5.nodes.length i1) (.slice F2 R5.sites.length i2) (.int .i64 R5.edges) (.slice F4 R5.outer.length i4) (.slice F5 R5.inner.length i5)
            have hzV : (sets6 w4 β (.int .i64 R5.roots) (.slice F1 R5.nodes.length i1) (.slice F2 R5.sites.length i2) (.int .i64 R5.edges) (.slice F4 R5.outer.length i4) (.slice F5 R5.inner.length i5)).heap.size = w4.heap.size := sets6_size _ _ _ _ _ _ _ _
            rw [hV] at hbxV hrV hbrV hblV hzV
            have HZV : Hid (X.heap.size ≤ V.heap.size) := Lib.hid (by rw [hzV]; exact HZ4.out)
            have HRV := Lib.hid ((hrV.here).wide HZR.out (Nat.le_refl _))
            obtain ⟨k0, k1, k2, k3, k4, k5⟩ := BoxAt.get hbx5
            obtain ⟨v0, v1, v2, v3, v4, v5⟩ := HBn4.out.get
            have f0 := World.rowIs.frozen hbx5 0
            have f1 := World.rowIs.frozen hbx5 1
            have f2 := World.rowIs.frozen hbx5 2
            have f3 := World.rowIs.frozen hbx5 3
            have f4 := World.rowIs.frozen hbx5 4
            have f5 := World.rowIs.frozen hbx5 5
            have hVe : (((((w4.setCell ⟨β, 0, none⟩ (.int .i64 R5.roots)).setCell ⟨β, 1, none⟩ (.slice F1 R5.nodes.length i1)).setCell ⟨β, 2, none⟩ (.slice F2 R5.sites.length i2)).setCell ⟨β, 3, none⟩ (.int .i64 R5.edges)).setCell ⟨β, 4, none⟩ (.slice F4 R5.outer.length i4)).setCell ⟨β, 5, none⟩ (.slice F5 R5.inner.length i5) = V := hV
            have HVe := Lib.hid hVe
            have HBxV := Lib.hid hbxV
            have HBrV := Lib.hid hbrV
            have HBlV := Lib.hid hblV
            clear hbx5 hV hbxV hrV hbrV hblV hzV hVe hT5
            go_wp2_with fail
            go_roundw
            case rel =>
              rw [HVe.out]
              refine ⟨j + 1, R5, F1, i1, F2, i2, F4, i4, F5, i5, by go_num, by omega, by omega, ?_, HT5.out.S, HT5.out.W, HBrV.out, HBxV.out, HRV.out, HBlV.out, HZV.out⟩
              rw [← HR5.out]
              have := caF_step HCa.out HX.out HQ5.out
              rw [show j - 1 + 1 = j + 1 - 1 by omega] at this
              exact this
            case measure => simp [intOf]; omega
        · obtain rfl : j = m := by omega
          have hfull : t.take (j - 1) = t := List.take_of_length_le (by have := HLm.out; rw [List.length_cons] at this; omega)
          rw [hfull] at hca
          have hsome : caO cs (b0 :: t) = some a := by rw [ca_good HLt.out HGq.out]; exact hca
          have HR := Lib.hid (ca_some hsome)
          obtain ⟨z0, z1, z2, z3, z4, z5⟩ := hbr.get
          obtain ⟨u0, u1, u2, u3, u4, u5⟩ := hbx.get
          have f0 := World.rowIs.frozen hbr 0
          have f1 := World.rowIs.frozen hbr 1
          have f2 := World.rowIs.frozen hbr 2
          have f3 := World.rowIs.frozen hbr 3
          have f4 := World.rowIs.frozen hbr 4
          have f5 := World.rowIs.frozen hbr 5
          have hz : w.heap.size ≤ X.heap.size := by have := HXz.out; omega
          have HRa := Lib.hid (((sets6_big hbr hra (.int .i64 a.roots) (.slice E1 a.nodes.length e1) (.slice E2 a.sites.length e2) (.int .i64 a.edges) (.slice E4 a.outer.length e4) (.slice E5 a.inner.length e5)).here).wide hz (Nat.le_refl _))
          have HBl := Lib.hid (sets6_below hbl (Nat.le_refl _) (.int .i64 a.roots) (.slice E1 a.nodes.length e1) (.slice E2 a.sites.length e2) (.int .i64 a.edges) (.slice E4 a.outer.length e4) (.slice E5 a.inner.length e5))
          clear hra hbl hbr hbx hca hsome hfull hSa hWa hz hsz
          go_wp2_with fail
          refine bodyPost_ret (v := .tuple #[(.agg #[.int .i64 a.roots, .slice E1 a.nodes.length e1, .slice E2 a.sites.length e2, .int .i64 a.edges, .slice E4 a.outer.length e4, .slice E5 a.inner.length e5]), .bool true]) (by simp [results, Tryz.results6, go_sem, z0, z1, z2, z3, z4, z5]) rfl (by rw [HR.out.1, HR.out.2]; exact ⟨_, rfl, HRa.out, HBl.out⟩)
theorem caF_mk {cs : List Ctl} : ∀ (t : List Big) (a r : Big), bigMk a ≤ 1048576 → caF cs (some a) t = some r → bigMk r ≤ 1048576
  | [], a, r, h, e => by
    have e' : some a = some r := e
    injection e' with e'
    subst e'
    exact h
  | b :: t, a, r, h, e => by
    have e' : (if cpQ cs a b = true then caF cs (some (cpR cs a b)) t else none) = some r := e
    split at e'
    · exact caF_mk t _ r (cpR_len cs a b) e'
    · cases e'
theorem caR_len (cs : List Ctl) (bs : List Big) : bigMk (caR cs bs) ≤ 1048576 := by
  unfold caR
  cases h : caO cs bs with
  | none => exact zero_len
  | some r =>
    show bigMk r ≤ 1048576
    cases bs with
    | nil => cases h
    | cons b t =>
      have h' : (if (decide (t.length ≤ 7) && bigB cs b) = true then caF cs (some b) t else none) = some r := h
      split at h'
      · rename_i hg
        rw [Bool.and_eq_true] at hg
        exact caF_mk t b r (big_mk hg.2) h'
      · cases h'
theorem sCaH_any (A : Option Addr) (n c : Nat) (cs : List Ctl) (v : Value) (bs : List Big) (w : World) (hC : CtlsAt w w.heap.size A n cs) (hn : n ≤ 1048576) (hs : ∀ c ∈ cs, c.name.size ≤ 1048576) (hB : BgsHere w v bs) (hm : bs.length ≤ 1048576) (hS : ∀ b ∈ bs, BigS b) (hW : ∀ b ∈ bs, BigW b) :
    Calls Tryz.prog 6 #[.slice A n c, v] w (BigPost (caQ cs bs) (caR cs bs) w) := by
  obtain ⟨g, rfl, hk, hg⟩ := hB
  exact sCa_any A n c cs g bs.length bs w hC hn hs hk rfl hg hm hS hW
theorem iCaH_any (A : Option Addr) (n c : Nat) (cs : List Ctl) (v : Value) (bs : List Big) (w : World) (hC : CtlsAt w w.heap.size A n cs) (hn : n ≤ 1048576) (hs : ∀ c ∈ cs, c.name.size ≤ 1048576) (hB : BgsHere w v bs) (hm : bs.length ≤ 1048576) (hS : ∀ b ∈ bs, BigS b) (hW : ∀ b ∈ bs, BigW b) :
    Calls Tryz.prog 9 #[.slice A n c, v] w (BigPost (caQ cs bs) (caR cs bs) w) := by
  obtain ⟨g, rfl, hk, hg⟩ := hB
  exact iCa_any A n c cs g bs.length bs w hC hn hs hk rfl hg hm hS hW
end Go.Proofs.YtlpgldejmdiceabGreat.cas
end

section
namespace Go.Proofs.YtlpgldejmdiceabGreat.fnExactComposeAll
open kit bg opn strs sig isig hc only hb ht gd cf lawb rs marks hi br bm bw lw cax bgs bgm bgo cas
open Go.ChangeShapes Go.WideShapes Go.ChangeAt Go.RowKit
open Go.ChangeMaps (open_string shut_string)
set_option linter.unusedVariables false

set_option maxRecDepth 20000 in
set_option maxHeartbeats 6400000 in
theorem walk (A0 : Option Addr) (n0 c0 : Nat) (cs0 : List Ctl) (A1 : Option Addr) (n1 c1 : Nat) (bs1 : List Big) (w : World) (h0 : CtlsAt w w.heap.size A0 n0 cs0) (hw0 : CtlsW cs0) (h1 : BgsAt w w.heap.size A1 n1 bs1) (hw1 : BgsW bs1) :
    Calls Tryz.prog 3 #[.slice A0 n0 c0, .slice A1 n1 c1] w fun e w' => e = .returned (.bool true) ∧ Below w.heap.size w w' := by
  have HA0 := Lib.hid h0
  clear h0
  have HL0 := Lib.hid HA0.out.1
  have HA1 := Lib.hid h1
  clear h1
  have HL1 := Lib.hid HA1.out.1
  have HK0 := Lib.hid (Below.refl w.heap.size w)
  obtain ⟨w0, hWw⟩ : ∃ w0, w = w0 := ⟨_, rfl⟩
  subst hWw
  go_enter Tryz.func3, Tryz.ntmps3
  go_wp2_with fail
  refine (szCS_any A0 n0 c0 cs0 1048576 _ _ ((HA0.out.below HK0.out).wide HK0.out.size) (Nat.le_refl _) (by omega) (by omega) hw0).mono ?_
  rintro e w1 ⟨r0, rfl, hr, hra0, hrb0, hb⟩
  have HZ_1 : Hid (w.heap.size ≤ w1.heap.size) := Lib.hid hb.size
  have HKn := Lib.hid (HK0.out.trans (hb.mono HK0.out.size))
  clear HK0
  have HK0 := Lib.hid HKn.out
  clear HKn
  clear hb
  by_cases hneg : r0 < 0
  · go_wp2_with fail
    go_ret
    exact ⟨rfl, HK0.out⟩
  have hpos0 : 0 ≤ r0 := by omega
  have HWt0 : Hid (r0 = 1048576 - (ctlsWt cs0 : Nat)) := Lib.hid (by omega)
  have hup0 : r0 ≤ 1048576 := by omega
  have hn0 : n0 ≤ 1048576 := by have := HL0.out; unfold ctlsWt at hr; omega
  have HS0 := Lib.hid (fun c (hc : c ∈ cs0) => show c.name.size ≤ 1048576 by have := sumBy_mem (fun c : Ctl => c.name.size) hc; unfold ctlsWt at hr; omega)
  clear hr hneg hra0 hrb0
  go_wp2_with fail
  refine (szBS_any A1 n1 c1 bs1 r0 _ _ ((HA1.out.below HK0.out).wide HK0.out.size) (Nat.le_refl _) (by omega) (by omega) hw1).mono ?_
  rintro e w2 ⟨r1, rfl, hr, hra1, hrb1, hb⟩
  have HZ_2 : Hid (w1.heap.size ≤ w2.heap.size) := Lib.hid hb.size
  have HKn := Lib.hid (HK0.out.trans (hb.mono HK0.out.size))
  clear HK0
  have HK0 := Lib.hid HKn.out
  clear HKn
  clear hb
  by_cases hneg : r1 < 0
  · go_wp2_with fail
    go_ret
    exact ⟨rfl, HK0.out⟩
  have hpos1 : 0 ≤ r1 := by omega
  have HWt1 : Hid (r1 = r0 - (bgsWt bs1 : Nat)) := Lib.hid (by omega)
  have hup1 : r1 ≤ 1048576 := by omega
  have hwt1 : bgsWt bs1 ≤ 1048576 := by omega
  have hn1 : n1 ≤ 1048576 := by have := HL1.out; unfold bgsWt at hwt1; omega
  have HWT1 := Lib.hid hwt1
  have HBS1 := Lib.hid (fun b (hb : b ∈ bs1) => bgs_big hwt1 hb)
  have HVW1 := Lib.hid (fun b (hb : b ∈ bs1) => hw1.2 b hb)
  have HLn1 := Lib.hid (show bs1.length ≤ 1048576 by rw [HL1.out]; exact hn1)
  clear hwt1
  clear hr hneg hra1 hrb1
  obtain ⟨q, hq⟩ : ∃ q, caQ cs0 bs1 = q := ⟨_, rfl⟩
  obtain ⟨R0, hR0⟩ : ∃ r : Big, caR cs0 bs1 = r := ⟨_, rfl⟩
  have hM0 : bigMk R0 ≤ 1048576 := by rw [← hR0]; exact caR_len cs0 bs1
  have HSp := Lib.hid (fun (A0 : Option Addr) (c0 : Nat) (v1 : Value) (w : World) (h0 : CtlsAt w w.heap.size A0 n0 cs0) (h1 : BgsHere w v1 bs1) => hR0 ▸ hq ▸ sCaH_any A0 n0 c0 cs0 v1 bs1 w h0 hn0 HS0.out h1 HLn1.out HBS1.out HVW1.out)
  have HIm := Lib.hid (fun (A0 : Option Addr) (c0 : Nat) (v1 : Value) (w : World) (h0 : CtlsAt w w.heap.size A0 n0 cs0) (h1 : BgsHere w v1 bs1) => hR0 ▸ hq ▸ iCaH_any A0 n0 c0 cs0 v1 bs1 w h0 hn0 HS0.out h1 HLn1.out HBS1.out HVW1.out)
  clear hq hR0
  go_wp2_with fail
  refine (toCS_any A0 n0 c0 cs0 _ ((HA0.out.below HK0.out).wide HK0.out.size) hn0).mono ?_
  rintro e w3 ⟨gb0, rfl, ho, hb⟩
  have HZ_3 : Hid (w2.heap.size ≤ w3.heap.size) := Lib.hid hb.size
  have HKn := Lib.hid (HK0.out.trans (hb.mono HK0.out.size))
  clear HK0
  have HK0 := Lib.hid HKn.out
  clear HKn
  clear hb
  have HCb0 := Lib.hid ho
  clear ho
  go_wp2_with fail
  refine (toBS2_any A1 n1 c1 bs1 _ ((HA1.out.below HK0.out).wide HK0.out.size) hn1 HBS1.out).mono ?_
  rintro e w4 ⟨gb1, rfl, ho, hb⟩
  have HZ_4 : Hid (w3.heap.size ≤ w4.heap.size) := Lib.hid hb.size
  have HKn := Lib.hid (HK0.out.trans (hb.mono HK0.out.size))
  clear HK0
  have HK0 := Lib.hid HKn.out
  clear HKn
  have HT := Lib.hid (HCb0.out.on hb)
  clear HCb0
  have HCb0 := Lib.hid HT.out
  clear HT
  clear hb
  have HCb1 := Lib.hid ho
  clear ho
  go_wp2_with fail
  refine (HSp.out _ _ _ _ HCb0.out.here (bgsIn_here HCb1.out)).mono ?_
  rintro e w5 ⟨vb0, rfl, hrb0, hb⟩; obtain ⟨B1b0, d1b0, B2b0, d2b0, B4b0, d4b0, B5b0, d5b0, rfl⟩ := hrb0.shape
  clear HCb0
  clear HCb1
  have HZ_5 : Hid (w4.heap.size ≤ w5.heap.size) := Lib.hid hb.size
  have HKn := Lib.hid (HK0.out.trans (hb.mono HK0.out.size))
  clear HK0
  have HK0 := Lib.hid HKn.out
  clear HKn
  clear hb
  have HRb := Lib.hid hrb0
  clear hrb0
  have hbX := (Below.refl w5.heap.size w5).alloc (Nat.le_refl _) (.cells #[.int .i64 R0.roots, .slice B1b0 R0.nodes.length d1b0, .slice B2b0 R0.sites.length d2b0, .int .i64 R0.edges, .slice B4b0 R0.outer.length d4b0, .slice B5b0 R0.inner.length d5b0] 31)
  go_wp2_with fail
  have HBxb : Hid (BoxAt (w5.alloc (.cells #[.int .i64 R0.roots, .slice B1b0 R0.nodes.length d1b0, .slice B2b0 R0.sites.length d2b0, .int .i64 R0.edges, .slice B4b0 R0.outer.length d4b0, .slice B5b0 R0.inner.length d5b0] 31)) w5.heap.size 31 (.int .i64 R0.roots) (.slice B1b0 R0.nodes.length d1b0) (.slice B2b0 R0.sites.length d2b0) (.int .i64 R0.edges) (.slice B4b0 R0.outer.length d4b0) (.slice B5b0 R0.inner.length d5b0)) := Lib.hid (six_new w5 _ _ _ _ _ _ _)
  obtain ⟨w6, hwn⟩ : ∃ x, w5.alloc (.cells #[.int .i64 R0.roots, .slice B1b0 R0.nodes.length d1b0, .slice B2b0 R0.sites.length d2b0, .int .i64 R0.edges, .slice B4b0 R0.outer.length d4b0, .slice B5b0 R0.inner.length d5b0] 31) = x := ⟨_, rfl⟩
  have HZs_6 : Hid (w5.heap.size < w6.heap.size) := Lib.hid (by rw [← hwn]; simp)
  rw [hwn] at HBxb hbX ⊢
  clear hwn
  have HZ_6 : Hid (w5.heap.size ≤ w6.heap.size) := Lib.hid hbX.size
  have HKn := Lib.hid (HK0.out.trans (hbX.mono HK0.out.size))
  clear HK0
  have HK0 := Lib.hid HKn.out
  clear HKn
  have HT := Lib.hid (HRb.out.on hbX)
  clear HRb
  have HRb := Lib.hid HT.out
  clear HT
  clear hbX
  refine (toCS_any A0 n0 c0 cs0 _ ((HA0.out.below HK0.out).wide HK0.out.size) hn0).mono ?_
  rintro e w7 ⟨X0, rfl, ho, hb⟩
  have HZ_7 : Hid (w6.heap.size ≤ w7.heap.size) := Lib.hid hb.size
  have HKn := Lib.hid (HK0.out.trans (hb.mono HK0.out.size))
  clear HK0
  have HK0 := Lib.hid HKn.out
  clear HKn
  have HT := Lib.hid (HRb.out.on hb)
  clear HRb
  have HRb := Lib.hid HT.out
  clear HT
  have HT := Lib.hid (HBxb.out.on hb)
  clear HBxb
  have HBxb := Lib.hid HT.out
  clear HT
  clear hb
  have HX0 := Lib.hid ho
  clear ho
  go_wp2_with fail
  refine (toBS2_any A1 n1 c1 bs1 _ ((HA1.out.below HK0.out).wide HK0.out.size) hn1 HBS1.out).mono ?_
  rintro e w8 ⟨X1, rfl, ho, hb⟩
  have HZ_8 : Hid (w7.heap.size ≤ w8.heap.size) := Lib.hid hb.size
  have HKn := Lib.hid (HK0.out.trans (hb.mono HK0.out.size))
  clear HK0
  have HK0 := Lib.hid HKn.out
  clear HKn
  have HT := Lib.hid (HRb.out.on hb)
  clear HRb
  have HRb := Lib.hid HT.out
  clear HT
  have HT := Lib.hid (HBxb.out.on hb)
  clear HBxb
  have HBxb := Lib.hid HT.out
  clear HT
  have HT := Lib.hid (HX0.out.on hb)
  clear HX0
  have HX0 := Lib.hid HT.out
  clear HT
  clear hb
  have HX1 := Lib.hid ho
  clear ho
  go_wp2_with fail
  refine (HIm.out _ _ _ _ HX0.out.here (bgsIn_here HX1.out)).mono ?_
  rintro e w9 ⟨vg0, rfl, hrg0, hb⟩; obtain ⟨B1g0, d1g0, B2g0, d2g0, B4g0, d4g0, B5g0, d5g0, rfl⟩ := hrg0.shape
  have HZ_9 : Hid (w8.heap.size ≤ w9.heap.size) := Lib.hid hb.size
  have HKn := Lib.hid (HK0.out.trans (hb.mono HK0.out.size))
  clear HK0
  have HK0 := Lib.hid HKn.out
  clear HKn
  have HT := Lib.hid (HRb.out.on hb)
  clear HRb
  have HRb := Lib.hid HT.out
  clear HT
  have HT := Lib.hid (HBxb.out.on hb)
  clear HBxb
  have HBxb := Lib.hid HT.out
  clear HT
  have HT := Lib.hid (HX0.out.on hb)
  clear HX0
  have HX0 := Lib.hid HT.out
  clear HT
  have HT := Lib.hid (HX1.out.on hb)
  clear HX1
  have HX1 := Lib.hid HT.out
  clear HT
  clear hb
  have HRg := Lib.hid hrg0
  clear hrg0
  have hbX := (Below.refl w9.heap.size w9).alloc (Nat.le_refl _) (.cells #[.int .i64 R0.roots, .slice B1g0 R0.nodes.length d1g0, .slice B2g0 R0.sites.length d2g0, .int .i64 R0.edges, .slice B4g0 R0.outer.length d4g0, .slice B5g0 R0.inner.length d5g0] 31)
  obtain ⟨y0, y1, y2, y3, y4, y5⟩ := (HBxb.out.on hbX).get
  go_wp2_with fail
  clear y0 y1 y2 y3 y4 y5
  have HBxg : Hid (BoxAt (w9.alloc (.cells #[.int .i64 R0.roots, .slice B1g0 R0.nodes.length d1g0, .slice B2g0 R0.sites.length d2g0, .int .i64 R0.edges, .slice B4g0 R0.outer.length d4g0, .slice B5g0 R0.inner.length d5g0] 31)) w9.heap.size 31 (.int .i64 R0.roots) (.slice B1g0 R0.nodes.length d1g0) (.slice B2g0 R0.sites.length d2g0) (.int .i64 R0.edges) (.slice B4g0 R0.outer.length d4g0) (.slice B5g0 R0.inner.length d5g0)) := Lib.hid (six_new w9 _ _ _ _ _ _ _)
  obtain ⟨w10, hwn⟩ : ∃ x, w9.alloc (.cells #[.int .i64 R0.roots, .slice B1g0 R0.nodes.length d1g0, .slice B2g0 R0.sites.length d2g0, .int .i64 R0.edges, .slice B4g0 R0.outer.length d4g0, .slice B5g0 R0.inner.length d5g0] 31) = x := ⟨_, rfl⟩
  have HZs_10 : Hid (w9.heap.size < w10.heap.size) := Lib.hid (by rw [← hwn]; simp)
  rw [hwn] at HBxg hbX ⊢
  clear hwn
  have HZ_10 : Hid (w9.heap.size ≤ w10.heap.size) := Lib.hid hbX.size
  have HKn := Lib.hid (HK0.out.trans (hbX.mono HK0.out.size))
  clear HK0
  have HK0 := Lib.hid HKn.out
  clear HKn
  have HT := Lib.hid (HRb.out.on hbX)
  clear HRb
  have HRb := Lib.hid HT.out
  clear HT
  have HT := Lib.hid (HBxb.out.on hbX)
  clear HBxb
  have HBxb := Lib.hid HT.out
  clear HT
  have HT := Lib.hid (HX0.out.on hbX)
  clear HX0
  have HX0 := Lib.hid HT.out
  clear HT
  have HT := Lib.hid (HX1.out.on hbX)
  clear HX1
  have HX1 := Lib.hid HT.out
  clear HT
  have HT := Lib.hid (HRg.out.on hbX)
  clear HRg
  have HRg := Lib.hid HT.out
  clear HT
  clear hbX
  refine (eqBR_any _ _ R0 _ _ _ _ _ HRg.out HRb.out (by have := HZ_1.out; have := HZ_2.out; have := HZ_3.out; have := HZ_4.out; have := HZ_5.out; have := HZs_6.out; have := HZ_6.out; have := HZ_7.out; have := HZ_8.out; have := HZ_9.out; have := HZs_10.out; have := HZ_10.out; omega) (by have := HZ_1.out; have := HZ_2.out; have := HZ_3.out; have := HZ_4.out; have := HZ_5.out; have := HZs_6.out; have := HZ_6.out; have := HZ_7.out; have := HZ_8.out; have := HZ_9.out; have := HZs_10.out; have := HZ_10.out; omega) hM0).mono ?_
  rintro e w11 ⟨rfl, hb⟩
  have HZ_11 : Hid (w10.heap.size ≤ w11.heap.size) := Lib.hid hb.size
  have HKn := Lib.hid (HK0.out.trans (hb.mono HK0.out.size))
  clear HK0
  have HK0 := Lib.hid HKn.out
  clear HKn
  have HT := Lib.hid (HRb.out.on hb)
  clear HRb
  have HRb := Lib.hid HT.out
  clear HT
  have HT := Lib.hid (HBxb.out.on hb)
  clear HBxb
  have HBxb := Lib.hid HT.out
  clear HT
  have HT := Lib.hid (HX0.out.on hb)
  clear HX0
  have HX0 := Lib.hid HT.out
  clear HT
  have HT := Lib.hid (HX1.out.on hb)
  clear HX1
  have HX1 := Lib.hid HT.out
  clear HT
  have HT := Lib.hid (HRg.out.on hb)
  clear HRg
  have HRg := Lib.hid HT.out
  clear HT
  have HT := Lib.hid (HBxg.out.on hb)
  clear HBxg
  have HBxg := Lib.hid HT.out
  clear HT
  clear hb
  go_wp2_with fail
  refine (toCS_any A0 n0 c0 cs0 _ ((HA0.out.below HK0.out).wide HK0.out.size) hn0).mono ?_
  rintro e w12 ⟨Y0, rfl, ho, hb⟩
  have HZ_12 : Hid (w11.heap.size ≤ w12.heap.size) := Lib.hid hb.size
  have HKn := Lib.hid (HK0.out.trans (hb.mono HK0.out.size))
  clear HK0
  have HK0 := Lib.hid HKn.out
  clear HKn
  have HT := Lib.hid (HRb.out.on hb)
  clear HRb
  have HRb := Lib.hid HT.out
  clear HT
  have HT := Lib.hid (HBxb.out.on hb)
  clear HBxb
  have HBxb := Lib.hid HT.out
  clear HT
  have HT := Lib.hid (HX0.out.on hb)
  clear HX0
  have HX0 := Lib.hid HT.out
  clear HT
  have HT := Lib.hid (HX1.out.on hb)
  clear HX1
  have HX1 := Lib.hid HT.out
  clear HT
  have HT := Lib.hid (HRg.out.on hb)
  clear HRg
  have HRg := Lib.hid HT.out
  clear HT
  have HT := Lib.hid (HBxg.out.on hb)
  clear HBxg
  have HBxg := Lib.hid HT.out
  clear HT
  clear hb
  have HYc := Lib.hid ho
  clear ho
  go_wp2_with fail
  refine (eqCS_any _ _ _ _ _ cs0 _ _ _ HX0.out.here HYc.out.here (Nat.le_refl _) (Nat.le_refl _) hn0).mono ?_
  rintro e w13 ⟨rfl, hb⟩
  clear HYc
  have HZ_13 : Hid (w12.heap.size ≤ w13.heap.size) := Lib.hid hb.size
  have HKn := Lib.hid (HK0.out.trans (hb.mono HK0.out.size))
  clear HK0
  have HK0 := Lib.hid HKn.out
  clear HKn
  have HT := Lib.hid (HRb.out.on hb)
  clear HRb
  have HRb := Lib.hid HT.out
  clear HT
  have HT := Lib.hid (HBxb.out.on hb)
  clear HBxb
  have HBxb := Lib.hid HT.out
  clear HT
  have HT := Lib.hid (HX0.out.on hb)
  clear HX0
  have HX0 := Lib.hid HT.out
  clear HT
  have HT := Lib.hid (HX1.out.on hb)
  clear HX1
  have HX1 := Lib.hid HT.out
  clear HT
  have HT := Lib.hid (HRg.out.on hb)
  clear HRg
  have HRg := Lib.hid HT.out
  clear HT
  have HT := Lib.hid (HBxg.out.on hb)
  clear HBxg
  have HBxg := Lib.hid HT.out
  clear HT
  clear hb
  go_wp2_with fail
  refine (toBS2_any A1 n1 c1 bs1 _ ((HA1.out.below HK0.out).wide HK0.out.size) hn1 HBS1.out).mono ?_
  rintro e w14 ⟨Y1, rfl, ho, hb⟩
  have HZ_14 : Hid (w13.heap.size ≤ w14.heap.size) := Lib.hid hb.size
  have HKn := Lib.hid (HK0.out.trans (hb.mono HK0.out.size))
  clear HK0
  have HK0 := Lib.hid HKn.out
  clear HKn
  have HT := Lib.hid (HRb.out.on hb)
  clear HRb
  have HRb := Lib.hid HT.out
  clear HT
  have HT := Lib.hid (HBxb.out.on hb)
  clear HBxb
  have HBxb := Lib.hid HT.out
  clear HT
  have HT := Lib.hid (HX0.out.on hb)
  clear HX0
  have HX0 := Lib.hid HT.out
  clear HT
  have HT := Lib.hid (HX1.out.on hb)
  clear HX1
  have HX1 := Lib.hid HT.out
  clear HT
  have HT := Lib.hid (HRg.out.on hb)
  clear HRg
  have HRg := Lib.hid HT.out
  clear HT
  have HT := Lib.hid (HBxg.out.on hb)
  clear HBxg
  have HBxg := Lib.hid HT.out
  clear HT
  clear hb
  have HYc := Lib.hid ho
  clear ho
  go_wp2_with fail
  refine (eqBSIn_any _ _ bs1 _ _ _ _ _ HX1.out HYc.out (Nat.le_trans HLn1.out (by unfold maxLen; omega)) (fun b hb => ⟨HVW1.out b hb, (HBS1.out b hb).2.2.2.1⟩)).mono ?_
  rintro e w15 ⟨rfl, hb⟩
  clear HYc
  have HZ_15 : Hid (w14.heap.size ≤ w15.heap.size) := Lib.hid hb.size
  have HKn := Lib.hid (HK0.out.trans (hb.mono HK0.out.size))
  clear HK0
  have HK0 := Lib.hid HKn.out
  clear HKn
  have HT := Lib.hid (HRb.out.on hb)
  clear HRb
  have HRb := Lib.hid HT.out
  clear HT
  have HT := Lib.hid (HBxb.out.on hb)
  clear HBxb
  have HBxb := Lib.hid HT.out
  clear HT
  have HT := Lib.hid (HX0.out.on hb)
  clear HX0
  have HX0 := Lib.hid HT.out
  clear HT
  have HT := Lib.hid (HX1.out.on hb)
  clear HX1
  have HX1 := Lib.hid HT.out
  clear HT
  have HT := Lib.hid (HRg.out.on hb)
  clear HRg
  have HRg := Lib.hid HT.out
  clear HT
  have HT := Lib.hid (HBxg.out.on hb)
  clear HBxg
  have HBxg := Lib.hid HT.out
  clear HT
  clear hb
  have hkp0 : (0 : Int) < 1 := by omega
  go_wp2_with fail
  refine (markCO_any _ _ _ cs0 1 _ w6.heap.size w7.heap.size HX0.out (by omega) (by have := HWt0.out; have := HWt1.out; omega) hn0).mono ?_
  rintro e w16 ⟨rfl, hq⟩
  clear HX0
  have HZ_16 : Hid (w15.heap.size ≤ w16.heap.size) := Lib.hid hq.size
  have HKn := Lib.hid (HK0.out.trans ((hq.below (show w6.heap.size ≤ w15.heap.size by have := HZ_1.out; have := HZ_2.out; have := HZ_3.out; have := HZ_4.out; have := HZ_5.out; have := HZs_6.out; have := HZ_6.out; have := HZ_7.out; have := HZ_8.out; have := HZ_9.out; have := HZs_10.out; have := HZ_10.out; have := HZ_11.out; have := HZ_12.out; have := HZ_13.out; have := HZ_14.out; have := HZ_15.out; have := HZ_16.out; omega)).mono (show w.heap.size ≤ w6.heap.size by have := HZ_1.out; have := HZ_2.out; have := HZ_3.out; have := HZ_4.out; have := HZ_5.out; have := HZs_6.out; have := HZ_6.out; have := HZ_7.out; have := HZ_8.out; have := HZ_9.out; have := HZs_10.out; have := HZ_10.out; have := HZ_11.out; have := HZ_12.out; have := HZ_13.out; have := HZ_14.out; have := HZ_15.out; have := HZ_16.out; omega)))
  clear HK0
  have HK0 := Lib.hid HKn.out
  clear HKn
  have HT := Lib.hid (HRb.out.far hq (by have := HZ_1.out; have := HZ_2.out; have := HZ_3.out; have := HZ_4.out; have := HZ_5.out; have := HZs_6.out; have := HZ_6.out; have := HZ_7.out; have := HZ_8.out; have := HZ_9.out; have := HZs_10.out; have := HZ_10.out; have := HZ_11.out; have := HZ_12.out; have := HZ_13.out; have := HZ_14.out; have := HZ_15.out; have := HZ_16.out; omega))
  clear HRb
  have HRb := Lib.hid HT.out
  clear HT
  have HT := Lib.hid (HBxb.out.far hq (by have := HZ_1.out; have := HZ_2.out; have := HZ_3.out; have := HZ_4.out; have := HZ_5.out; have := HZs_6.out; have := HZ_6.out; have := HZ_7.out; have := HZ_8.out; have := HZ_9.out; have := HZs_10.out; have := HZ_10.out; have := HZ_11.out; have := HZ_12.out; have := HZ_13.out; have := HZ_14.out; have := HZ_15.out; have := HZ_16.out; omega))
  clear HBxb
  have HBxb := Lib.hid HT.out
  clear HT
  have HT := Lib.hid (HX1.out.far hq (by have := HZ_1.out; have := HZ_2.out; have := HZ_3.out; have := HZ_4.out; have := HZ_5.out; have := HZs_6.out; have := HZ_6.out; have := HZ_7.out; have := HZ_8.out; have := HZ_9.out; have := HZs_10.out; have := HZ_10.out; have := HZ_11.out; have := HZ_12.out; have := HZ_13.out; have := HZ_14.out; have := HZ_15.out; have := HZ_16.out; omega))
  clear HX1
  have HX1 := Lib.hid HT.out
  clear HT
  have HT := Lib.hid (HRg.out.far hq (by have := HZ_1.out; have := HZ_2.out; have := HZ_3.out; have := HZ_4.out; have := HZ_5.out; have := HZs_6.out; have := HZ_6.out; have := HZ_7.out; have := HZ_8.out; have := HZ_9.out; have := HZs_10.out; have := HZ_10.out; have := HZ_11.out; have := HZ_12.out; have := HZ_13.out; have := HZ_14.out; have := HZ_15.out; have := HZ_16.out; omega))
  clear HRg
  have HRg := Lib.hid HT.out
  clear HT
  have HT := Lib.hid (HBxg.out.far hq (by have := HZ_1.out; have := HZ_2.out; have := HZ_3.out; have := HZ_4.out; have := HZ_5.out; have := HZs_6.out; have := HZ_6.out; have := HZ_7.out; have := HZ_8.out; have := HZ_9.out; have := HZs_10.out; have := HZ_10.out; have := HZ_11.out; have := HZ_12.out; have := HZ_13.out; have := HZ_14.out; have := HZ_15.out; have := HZ_16.out; omega))
  clear HBxg
  have HBxg := Lib.hid HT.out
  clear HT
  clear hq
  obtain ⟨kr0, hkr⟩ : ∃ k : Int, 1 + 3 * (n0 : Int) = k := ⟨_, rfl⟩
  rw [hkr]
  have HKv1 : Hid (kr0 = 1 + 3 * (n0 : Int)) := Lib.hid hkr.symm
  have hkp1 : 0 < kr0 := by omega
  clear hkr
  have HNc0 : Hid (n0 ≤ ctlsWt cs0) := Lib.hid (by have := HL0.out; unfold ctlsWt; omega)
  go_wp2_with fail
  refine (markBSIn_any _ bs1 kr0 _ w7.heap.size w8.heap.size HX1.out (by omega) (by have := HNc0.out; have := HKv1.out; have := HWt0.out; have := HWt1.out; omega) HWT1.out).mono ?_
  rintro e w17 ⟨kr1, rfl, hkp, hkb, hq⟩
  clear HX1
  have HZ_17 : Hid (w16.heap.size ≤ w17.heap.size) := Lib.hid hq.size
  have HKn := Lib.hid (HK0.out.trans ((hq.below (show w7.heap.size ≤ w16.heap.size by have := HZ_1.out; have := HZ_2.out; have := HZ_3.out; have := HZ_4.out; have := HZ_5.out; have := HZs_6.out; have := HZ_6.out; have := HZ_7.out; have := HZ_8.out; have := HZ_9.out; have := HZs_10.out; have := HZ_10.out; have := HZ_11.out; have := HZ_12.out; have := HZ_13.out; have := HZ_14.out; have := HZ_15.out; have := HZ_16.out; have := HZ_17.out; omega)).mono (show w.heap.size ≤ w7.heap.size by have := HZ_1.out; have := HZ_2.out; have := HZ_3.out; have := HZ_4.out; have := HZ_5.out; have := HZs_6.out; have := HZ_6.out; have := HZ_7.out; have := HZ_8.out; have := HZ_9.out; have := HZs_10.out; have := HZ_10.out; have := HZ_11.out; have := HZ_12.out; have := HZ_13.out; have := HZ_14.out; have := HZ_15.out; have := HZ_16.out; have := HZ_17.out; omega)))
  clear HK0
  have HK0 := Lib.hid HKn.out
  clear HKn
  have HT := Lib.hid (HRb.out.far hq (by have := HZ_1.out; have := HZ_2.out; have := HZ_3.out; have := HZ_4.out; have := HZ_5.out; have := HZs_6.out; have := HZ_6.out; have := HZ_7.out; have := HZ_8.out; have := HZ_9.out; have := HZs_10.out; have := HZ_10.out; have := HZ_11.out; have := HZ_12.out; have := HZ_13.out; have := HZ_14.out; have := HZ_15.out; have := HZ_16.out; have := HZ_17.out; omega))
  clear HRb
  have HRb := Lib.hid HT.out
  clear HT
  have HT := Lib.hid (HBxb.out.far hq (by have := HZ_1.out; have := HZ_2.out; have := HZ_3.out; have := HZ_4.out; have := HZ_5.out; have := HZs_6.out; have := HZ_6.out; have := HZ_7.out; have := HZ_8.out; have := HZ_9.out; have := HZs_10.out; have := HZ_10.out; have := HZ_11.out; have := HZ_12.out; have := HZ_13.out; have := HZ_14.out; have := HZ_15.out; have := HZ_16.out; have := HZ_17.out; omega))
  clear HBxb
  have HBxb := Lib.hid HT.out
  clear HT
  have HT := Lib.hid (HRg.out.far hq (by have := HZ_1.out; have := HZ_2.out; have := HZ_3.out; have := HZ_4.out; have := HZ_5.out; have := HZs_6.out; have := HZ_6.out; have := HZ_7.out; have := HZ_8.out; have := HZ_9.out; have := HZs_10.out; have := HZ_10.out; have := HZ_11.out; have := HZ_12.out; have := HZ_13.out; have := HZ_14.out; have := HZ_15.out; have := HZ_16.out; have := HZ_17.out; omega))
  clear HRg
  have HRg := Lib.hid HT.out
  clear HT
  have HT := Lib.hid (HBxg.out.far hq (by have := HZ_1.out; have := HZ_2.out; have := HZ_3.out; have := HZ_4.out; have := HZ_5.out; have := HZs_6.out; have := HZ_6.out; have := HZ_7.out; have := HZ_8.out; have := HZ_9.out; have := HZs_10.out; have := HZ_10.out; have := HZ_11.out; have := HZ_12.out; have := HZ_13.out; have := HZ_14.out; have := HZ_15.out; have := HZ_16.out; have := HZ_17.out; omega))
  clear HBxg
  have HBxg := Lib.hid HT.out
  clear HT
  clear hq
  have HKv2 : Hid (kr1 ≤ kr0 + 2 * (bgsWt bs1 : Nat)) := Lib.hid hkb
  have hkp2 := hkp
  clear hkp hkb
  obtain ⟨x0, x1, x2, x3, x4, x5⟩ := HBxg.out.get
  obtain ⟨y0, y1, y2, y3, y4, y5⟩ := HBxb.out.get
  go_wp2_with fail
  clear x0 x1 x2 x3 x4 x5 y0 y1 y2 y3 y4 y5
  refine (eqBR_any _ _ R0 _ _ _ _ _ HRg.out HRb.out (by have := HZ_1.out; have := HZ_2.out; have := HZ_3.out; have := HZ_4.out; have := HZ_5.out; have := HZs_6.out; have := HZ_6.out; have := HZ_7.out; have := HZ_8.out; have := HZ_9.out; have := HZs_10.out; have := HZ_10.out; have := HZ_11.out; have := HZ_12.out; have := HZ_13.out; have := HZ_14.out; have := HZ_15.out; have := HZ_16.out; have := HZ_17.out; omega) (by have := HZ_1.out; have := HZ_2.out; have := HZ_3.out; have := HZ_4.out; have := HZ_5.out; have := HZs_6.out; have := HZ_6.out; have := HZ_7.out; have := HZ_8.out; have := HZ_9.out; have := HZs_10.out; have := HZ_10.out; have := HZ_11.out; have := HZ_12.out; have := HZ_13.out; have := HZ_14.out; have := HZ_15.out; have := HZ_16.out; have := HZ_17.out; omega) hM0).mono ?_
  rintro e w18 ⟨rfl, hb⟩
  have HZ_18 : Hid (w17.heap.size ≤ w18.heap.size) := Lib.hid hb.size
  have HKn := Lib.hid (HK0.out.trans (hb.mono HK0.out.size))
  clear HK0
  have HK0 := Lib.hid HKn.out
  clear HKn
  have HT := Lib.hid (HRb.out.on hb)
  clear HRb
  have HRb := Lib.hid HT.out
  clear HT
  have HT := Lib.hid (HBxb.out.on hb)
  clear HBxb
  have HBxb := Lib.hid HT.out
  clear HT
  have HT := Lib.hid (HRg.out.on hb)
  clear HRg
  have HRg := Lib.hid HT.out
  clear HT
  have HT := Lib.hid (HBxg.out.on hb)
  clear HBxg
  have HBxg := Lib.hid HT.out
  clear HT
  clear hb
  obtain ⟨x0, x1, x2, x3, x4, x5⟩ := HBxg.out.get
  go_wp2_with fail
  clear x0 x1 x2 x3 x4 x5
  refine (markBR_any _ R0 1 _ w8.heap.size w9.heap.size HRg.out (by have := HZ_1.out; have := HZ_2.out; have := HZ_3.out; have := HZ_4.out; have := HZ_5.out; have := HZs_6.out; have := HZ_6.out; have := HZ_7.out; have := HZ_8.out; have := HZ_9.out; have := HZs_10.out; have := HZ_10.out; have := HZ_11.out; have := HZ_12.out; have := HZ_13.out; have := HZ_14.out; have := HZ_15.out; have := HZ_16.out; have := HZ_17.out; have := HZ_18.out; omega) (by omega) (by omega) hM0).mono ?_
  rintro e w19 ⟨rfl, hm, hq⟩
  clear HRg
  have HZ_19 : Hid (w18.heap.size ≤ w19.heap.size) := Lib.hid hq.size
  have HKn := Lib.hid (HK0.out.trans ((hq.below (show w8.heap.size ≤ w18.heap.size by have := HZ_1.out; have := HZ_2.out; have := HZ_3.out; have := HZ_4.out; have := HZ_5.out; have := HZs_6.out; have := HZ_6.out; have := HZ_7.out; have := HZ_8.out; have := HZ_9.out; have := HZs_10.out; have := HZ_10.out; have := HZ_11.out; have := HZ_12.out; have := HZ_13.out; have := HZ_14.out; have := HZ_15.out; have := HZ_16.out; have := HZ_17.out; have := HZ_18.out; have := HZ_19.out; omega)).mono (show w.heap.size ≤ w8.heap.size by have := HZ_1.out; have := HZ_2.out; have := HZ_3.out; have := HZ_4.out; have := HZ_5.out; have := HZs_6.out; have := HZ_6.out; have := HZ_7.out; have := HZ_8.out; have := HZ_9.out; have := HZs_10.out; have := HZ_10.out; have := HZ_11.out; have := HZ_12.out; have := HZ_13.out; have := HZ_14.out; have := HZ_15.out; have := HZ_16.out; have := HZ_17.out; have := HZ_18.out; have := HZ_19.out; omega)))
  clear HK0
  have HK0 := Lib.hid HKn.out
  clear HKn
  have HT := Lib.hid (HRb.out.far hq (by have := HZ_1.out; have := HZ_2.out; have := HZ_3.out; have := HZ_4.out; have := HZ_5.out; have := HZs_6.out; have := HZ_6.out; have := HZ_7.out; have := HZ_8.out; have := HZ_9.out; have := HZs_10.out; have := HZ_10.out; have := HZ_11.out; have := HZ_12.out; have := HZ_13.out; have := HZ_14.out; have := HZ_15.out; have := HZ_16.out; have := HZ_17.out; have := HZ_18.out; have := HZ_19.out; omega))
  clear HRb
  have HRb := Lib.hid HT.out
  clear HT
  have HT := Lib.hid (HBxb.out.far hq (by have := HZ_1.out; have := HZ_2.out; have := HZ_3.out; have := HZ_4.out; have := HZ_5.out; have := HZs_6.out; have := HZ_6.out; have := HZ_7.out; have := HZ_8.out; have := HZ_9.out; have := HZs_10.out; have := HZ_10.out; have := HZ_11.out; have := HZ_12.out; have := HZ_13.out; have := HZ_14.out; have := HZ_15.out; have := HZ_16.out; have := HZ_17.out; have := HZ_18.out; have := HZ_19.out; omega))
  clear HBxb
  have HBxb := Lib.hid HT.out
  clear HT
  have HT := Lib.hid (HBxg.out.far hq (by have := HZ_1.out; have := HZ_2.out; have := HZ_3.out; have := HZ_4.out; have := HZ_5.out; have := HZs_6.out; have := HZ_6.out; have := HZ_7.out; have := HZ_8.out; have := HZ_9.out; have := HZs_10.out; have := HZ_10.out; have := HZ_11.out; have := HZ_12.out; have := HZ_13.out; have := HZ_14.out; have := HZ_15.out; have := HZ_16.out; have := HZ_17.out; have := HZ_18.out; have := HZ_19.out; omega))
  clear HBxg
  have HBxg := Lib.hid HT.out
  clear HT
  clear hq
  have HMk := Lib.hid hm
  clear hm
  obtain ⟨mm, hmm⟩ : ∃ k : Int, 1 + (bigMk R0 : Int) = k := ⟨_, rfl⟩
  rw [hmm]
  have Hmm := Lib.hid hmm
  have hmp : 0 < mm := by omega
  clear hmm
  obtain ⟨x0, x1, x2, x3, x4, x5⟩ := HBxg.out.get
  go_wp2_with fail
  clear x0 x1 x2 x3 x4 x5
  refine (heldBR_any _ R0 1 _ w8.heap.size w9.heap.size HMk.out (by omega) (by omega) hM0).mono ?_
  rintro e w20 ⟨rfl, hb⟩
  rw [Hmm.out]
  have HZ_20 : Hid (w19.heap.size ≤ w20.heap.size) := Lib.hid hb.size
  have HKn := Lib.hid (HK0.out.trans (hb.mono HK0.out.size))
  clear HK0
  have HK0 := Lib.hid HKn.out
  clear HKn
  have HT := Lib.hid (HRb.out.on hb)
  clear HRb
  have HRb := Lib.hid HT.out
  clear HT
  have HT := Lib.hid (HBxb.out.on hb)
  clear HBxb
  have HBxb := Lib.hid HT.out
  clear HT
  have HT := Lib.hid (HBxg.out.on hb)
  clear HBxg
  have HBxg := Lib.hid HT.out
  clear HT
  have HT := Lib.hid (HMk.out.on hb)
  clear HMk
  have HMk := Lib.hid HT.out
  clear HT
  clear hb
  go_wp2_with fail
  refine (toCS_any A0 n0 c0 cs0 _ ((HA0.out.below HK0.out).wide HK0.out.size) hn0).mono ?_
  rintro e w21 ⟨gc0, rfl, ho, hb⟩
  have HZ_21 : Hid (w20.heap.size ≤ w21.heap.size) := Lib.hid hb.size
  have HKn := Lib.hid (HK0.out.trans (hb.mono HK0.out.size))
  clear HK0
  have HK0 := Lib.hid HKn.out
  clear HKn
  have HT := Lib.hid (HRb.out.on hb)
  clear HRb
  have HRb := Lib.hid HT.out
  clear HT
  have HT := Lib.hid (HBxb.out.on hb)
  clear HBxb
  have HBxb := Lib.hid HT.out
  clear HT
  have HT := Lib.hid (HBxg.out.on hb)
  clear HBxg
  have HBxg := Lib.hid HT.out
  clear HT
  have HT := Lib.hid (HMk.out.on hb)
  clear HMk
  have HMk := Lib.hid HT.out
  clear HT
  clear hb
  have HCc0 := Lib.hid ho
  clear ho
  go_wp2_with fail
  refine (toBS2_any A1 n1 c1 bs1 _ ((HA1.out.below HK0.out).wide HK0.out.size) hn1 HBS1.out).mono ?_
  rintro e w22 ⟨gc1, rfl, ho, hb⟩
  have HZ_22 : Hid (w21.heap.size ≤ w22.heap.size) := Lib.hid hb.size
  have HKn := Lib.hid (HK0.out.trans (hb.mono HK0.out.size))
  clear HK0
  have HK0 := Lib.hid HKn.out
  clear HKn
  have HT := Lib.hid (HRb.out.on hb)
  clear HRb
  have HRb := Lib.hid HT.out
  clear HT
  have HT := Lib.hid (HBxb.out.on hb)
  clear HBxb
  have HBxb := Lib.hid HT.out
  clear HT
  have HT := Lib.hid (HBxg.out.on hb)
  clear HBxg
  have HBxg := Lib.hid HT.out
  clear HT
  have HT := Lib.hid (HMk.out.on hb)
  clear HMk
  have HMk := Lib.hid HT.out
  clear HT
  have HT := Lib.hid (HCc0.out.on hb)
  clear HCc0
  have HCc0 := Lib.hid HT.out
  clear HT
  clear hb
  have HCc1 := Lib.hid ho
  clear ho
  go_wp2_with fail
  refine (HIm.out _ _ _ _ HCc0.out.here (bgsIn_here HCc1.out)).mono ?_
  rintro e w23 ⟨vc0, rfl, hrc0, hb⟩; obtain ⟨B1c0, d1c0, B2c0, d2c0, B4c0, d4c0, B5c0, d5c0, rfl⟩ := hrc0.shape
  clear HCc0
  clear HCc1
  have HZ_23 : Hid (w22.heap.size ≤ w23.heap.size) := Lib.hid hb.size
  have HKn := Lib.hid (HK0.out.trans (hb.mono HK0.out.size))
  clear HK0
  have HK0 := Lib.hid HKn.out
  clear HKn
  have HT := Lib.hid (HRb.out.on hb)
  clear HRb
  have HRb := Lib.hid HT.out
  clear HT
  have HT := Lib.hid (HBxb.out.on hb)
  clear HBxb
  have HBxb := Lib.hid HT.out
  clear HT
  have HT := Lib.hid (HBxg.out.on hb)
  clear HBxg
  have HBxg := Lib.hid HT.out
  clear HT
  have HT := Lib.hid (HMk.out.on hb)
  clear HMk
  have HMk := Lib.hid HT.out
  clear HT
  clear hb
  have HRc := Lib.hid hrc0
  clear hrc0
  have hbX := (Below.refl w23.heap.size w23).alloc (Nat.le_refl _) (.cells #[.int .i64 R0.roots, .slice B1c0 R0.nodes.length d1c0, .slice B2c0 R0.sites.length d2c0, .int .i64 R0.edges, .slice B4c0 R0.outer.length d4c0, .slice B5c0 R0.inner.length d5c0] 31)
  obtain ⟨y0, y1, y2, y3, y4, y5⟩ := (HBxb.out.on hbX).get
  go_wp2_with fail
  clear y0 y1 y2 y3 y4 y5
  have HBxc : Hid (BoxAt (w23.alloc (.cells #[.int .i64 R0.roots, .slice B1c0 R0.nodes.length d1c0, .slice B2c0 R0.sites.length d2c0, .int .i64 R0.edges, .slice B4c0 R0.outer.length d4c0, .slice B5c0 R0.inner.length d5c0] 31)) w23.heap.size 31 (.int .i64 R0.roots) (.slice B1c0 R0.nodes.length d1c0) (.slice B2c0 R0.sites.length d2c0) (.int .i64 R0.edges) (.slice B4c0 R0.outer.length d4c0) (.slice B5c0 R0.inner.length d5c0)) := Lib.hid (six_new w23 _ _ _ _ _ _ _)
  obtain ⟨w24, hwn⟩ : ∃ x, w23.alloc (.cells #[.int .i64 R0.roots, .slice B1c0 R0.nodes.length d1c0, .slice B2c0 R0.sites.length d2c0, .int .i64 R0.edges, .slice B4c0 R0.outer.length d4c0, .slice B5c0 R0.inner.length d5c0] 31) = x := ⟨_, rfl⟩
  have HZs_24 : Hid (w23.heap.size < w24.heap.size) := Lib.hid (by rw [← hwn]; simp)
  rw [hwn] at HBxc hbX ⊢
  clear hwn
  have HZ_24 : Hid (w23.heap.size ≤ w24.heap.size) := Lib.hid hbX.size
  have HKn := Lib.hid (HK0.out.trans (hbX.mono HK0.out.size))
  clear HK0
  have HK0 := Lib.hid HKn.out
  clear HKn
  have HT := Lib.hid (HRb.out.on hbX)
  clear HRb
  have HRb := Lib.hid HT.out
  clear HT
  have HT := Lib.hid (HBxb.out.on hbX)
  clear HBxb
  have HBxb := Lib.hid HT.out
  clear HT
  have HT := Lib.hid (HBxg.out.on hbX)
  clear HBxg
  have HBxg := Lib.hid HT.out
  clear HT
  have HT := Lib.hid (HMk.out.on hbX)
  clear HMk
  have HMk := Lib.hid HT.out
  clear HT
  have HT := Lib.hid (HRc.out.on hbX)
  clear HRc
  have HRc := Lib.hid HT.out
  clear HT
  clear hbX
  refine (eqBR_any _ _ R0 _ _ _ _ _ HRc.out HRb.out (by have := HZ_1.out; have := HZ_2.out; have := HZ_3.out; have := HZ_4.out; have := HZ_5.out; have := HZs_6.out; have := HZ_6.out; have := HZ_7.out; have := HZ_8.out; have := HZ_9.out; have := HZs_10.out; have := HZ_10.out; have := HZ_11.out; have := HZ_12.out; have := HZ_13.out; have := HZ_14.out; have := HZ_15.out; have := HZ_16.out; have := HZ_17.out; have := HZ_18.out; have := HZ_19.out; have := HZ_20.out; have := HZ_21.out; have := HZ_22.out; have := HZ_23.out; have := HZs_24.out; have := HZ_24.out; omega) (by have := HZ_1.out; have := HZ_2.out; have := HZ_3.out; have := HZ_4.out; have := HZ_5.out; have := HZs_6.out; have := HZ_6.out; have := HZ_7.out; have := HZ_8.out; have := HZ_9.out; have := HZs_10.out; have := HZ_10.out; have := HZ_11.out; have := HZ_12.out; have := HZ_13.out; have := HZ_14.out; have := HZ_15.out; have := HZ_16.out; have := HZ_17.out; have := HZ_18.out; have := HZ_19.out; have := HZ_20.out; have := HZ_21.out; have := HZ_22.out; have := HZ_23.out; have := HZs_24.out; have := HZ_24.out; omega) hM0).mono ?_
  rintro e w25 ⟨rfl, hb⟩
  have HZ_25 : Hid (w24.heap.size ≤ w25.heap.size) := Lib.hid hb.size
  have HKn := Lib.hid (HK0.out.trans (hb.mono HK0.out.size))
  clear HK0
  have HK0 := Lib.hid HKn.out
  clear HKn
  have HT := Lib.hid (HRb.out.on hb)
  clear HRb
  have HRb := Lib.hid HT.out
  clear HT
  have HT := Lib.hid (HBxb.out.on hb)
  clear HBxb
  have HBxb := Lib.hid HT.out
  clear HT
  have HT := Lib.hid (HBxg.out.on hb)
  clear HBxg
  have HBxg := Lib.hid HT.out
  clear HT
  have HT := Lib.hid (HMk.out.on hb)
  clear HMk
  have HMk := Lib.hid HT.out
  clear HT
  have HT := Lib.hid (HRc.out.on hb)
  clear HRc
  have HRc := Lib.hid HT.out
  clear HT
  have HT := Lib.hid (HBxc.out.on hb)
  clear HBxc
  have HBxc := Lib.hid HT.out
  clear HT
  clear hb
  obtain ⟨x0, x1, x2, x3, x4, x5⟩ := HBxg.out.get
  go_wp2_with fail
  clear x0 x1 x2 x3 x4 x5
  refine (heldBR_any _ R0 1 _ w8.heap.size w9.heap.size HMk.out (by omega) (by omega) hM0).mono ?_
  rintro e w26 ⟨rfl, hb⟩
  rw [Hmm.out]
  have HZ_26 : Hid (w25.heap.size ≤ w26.heap.size) := Lib.hid hb.size
  have HKn := Lib.hid (HK0.out.trans (hb.mono HK0.out.size))
  clear HK0
  have HK0 := Lib.hid HKn.out
  clear HKn
  have HT := Lib.hid (HRb.out.on hb)
  clear HRb
  have HRb := Lib.hid HT.out
  clear HT
  have HT := Lib.hid (HBxb.out.on hb)
  clear HBxb
  have HBxb := Lib.hid HT.out
  clear HT
  have HT := Lib.hid (HBxg.out.on hb)
  clear HBxg
  have HBxg := Lib.hid HT.out
  clear HT
  have HT := Lib.hid (HMk.out.on hb)
  clear HMk
  have HMk := Lib.hid HT.out
  clear HT
  have HT := Lib.hid (HRc.out.on hb)
  clear HRc
  have HRc := Lib.hid HT.out
  clear HT
  have HT := Lib.hid (HBxc.out.on hb)
  clear HBxc
  have HBxc := Lib.hid HT.out
  clear HT
  clear hb
  go_wp2_with fail
  go_ret
  exact ⟨rfl, HK0.out⟩

theorem own : ownKnob Tryz.prog.godebug = none := by kernel_rfl
theorem laidOut : laidOutB Tryz.prog = true := facts.laid

set_option maxRecDepth 100000 in
theorem lifted (os : Os) (started : os.Started) (H : Type) (enc : TypeId × Value → H) :
    ReturnsInHanded {} Tryz.checked os 3 .any (Rows.fnExactComposeAllSpec.pre6 enc Tryz.prog Tryz.f3 Rows.fnExactComposeAllRow.domain false) (Rows.fnExactComposeAllSpec.post enc Tryz.prog Tryz.f3 false true false false) := by
  refine returnsInHanded_of_change (C := Tryz.checked) own started (by kernel_rfl) Tryz.func3
    (ChangeSpec.witness6 (enc := enc) (C := Tryz.checked) false ⟨#[], #[.slice none 0 0, .slice none 0 0], []⟩ 8 (by kernel_rfl) (by kernel_rfl) (by kernel_rfl) (by kernel_rfl)) ?_
  intro W base args ds gs before hval0 hW hcnd _
  have hval : ∀ (j : Nat) t v, Tryz.f3.params[j]? = some t → args[j]? = some v → Value.okWide Tryz.prog W .any base t v := hval0
  have hW' := hW
  obtain ⟨p, q, hA0, hV, rfl, hfz, hnd⟩ := hW
  have hA : DataW.TrodAll enc Tryz.prog W 0 (fun _ => true) true Tryz.f3.params.toList args.toList ds p := hA0
  rw [Tryz.params3] at hA hval
  obtain ⟨v0, vs0, d0, ds0, p0, q0, hargs, rfl, rfl, h0, r0⟩ := trodAll_cons hA
  obtain ⟨v1, vs1, d1, ds1, p1, q1, rfl, rfl, rfl, h1, r1⟩ := trodAll_cons r0
  obtain ⟨rfl, rfl, rfl⟩ := trodAll_nil r1
  obtain rfl : args = #[v0, v1] := by cases args; simp_all
  obtain ⟨rfl, rfl⟩ := trodVars_none hV
  have k0 := h0
  have lt0 : ∀ x ∈ p0, x.block < W.heap.size := by obtain ⟨m, hm⟩ := k0; exact DataW.trod_lt m _ _ _ hm
  obtain ⟨A0, n0, c0, cs0, rfl, s0, w0⟩ := open_sig (hval 0 22 v0 rfl rfl) h0 lt0
  have k1 := h1
  have lt1 : ∀ x ∈ p1, x.block < W.heap.size := by obtain ⟨m, hm⟩ := k1; exact DataW.trod_lt m _ _ _ hm
  obtain ⟨A1, n1, c1, bs1, rfl, s1, w1⟩ := open_bgs (hval 1 23 v1 rfl rfl) h1 lt1
  clear hA0 hval0
  refine (walk A0 n0 c0 cs0 A1 n1 c1 bs1 W s0 w0 s1 w1).mono fun e W' ⟨he, bel⟩ => ?_
  subst he
  exact ⟨_, rfl, _, _, _, [], _, [], hW', trodAll_mk1 (shut_bool Tryz.underlying4 _), (trodAll_cons_mk (Below.trod laidOut (by kernel_rfl) (of_decide_eq_true (by kernel_rfl)) k0 bel lt0) (trodAll_cons_mk (Below.trod laidOut (by kernel_rfl) (of_decide_eq_true (by kernel_rfl)) k1 bel lt1) trodAll_mk0)), rfl, bel.frame _, fun h => by cases h⟩

theorem closed : joinedFacts Tryz.checked.prog 3 Tryz.f3 Rows.fnExactComposeAllSpec Rows.fnExactComposeAllRow = true := by
  unfold joinedFacts
  rw [facts.laid, facts.maps, facts.heard, facts.enter, facts.lifts, facts.make, facts.keys]
  kernel_rfl

theorem over : Rows.fnExactComposeAllRow.holds Tryz.pinned (OpenSpec.ofChange Rows.fnExactComposeAllSpec) :=
  OpenClaim.holds_of_wide 3 Tryz.f3 rfl rfl rfl rfl rfl rfl rfl ⟨rfl, rfl, rfl, rfl, rfl⟩ rfl rfl rfl rfl rfl (by kernel_rfl) Tryz.func3 closed
    (of_decide_eq_true (by kernel_rfl)) (by unfold Func.isWrapper; first | (rw [if_pos (by decide +kernel)]; kernel_rfl) | (rw [if_neg (by decide +kernel)]; exact ⟨rfl, rfl⟩))
    (fun os started H enc _ => lifted os started H enc)

theorem proved : Rows.FnExactComposeAllSaid := over
#print axioms proved
end Go.Proofs.YtlpgldejmdiceabGreat.fnExactComposeAll
end
