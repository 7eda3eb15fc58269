/- spec.l4Nodes: the nodes with other parents and links. -/
import Derived.Test.YtlpgldejmdiceabGreatWk
import Derived.Test.YtlpgldejmdiceabGreatQh
namespace Go.Proofs.YtlpgldejmdiceabGreat.nk
open kit bg sg opn strs only hb sig isig un over gn nm inn ht gd im pt marks eqs hc hi hw hn rs br bm bw cf lf ib isa lawb lw cl pl mb sb wb ek rn rnm tp wk rl ed mrp mrs
open Go.RowKit
set_option linter.unusedVariables false
set_option linter.unusedSimpArgs false
def ndK (b : Big) (zs : List Int) (y : Int) (lks : List Int) : List Nd := b.nodes.map (fun x => ⟨x.control, pcF zs y x.parent, x.links.map (lkF lks)⟩)
/-- the third cells -/
def lsF (ns : List Nd) (LA : Nat → Option Addr) (LC : Nat → Nat) (k : Nat) : Value := .slice (LA k) (lnOf ns k) (LC k)
theorem cells_three_new (w : World) (a b c : Value) (t : TypeId) : ∀ (j : Nat) u, [a, b, c][j]? = some u → (w.alloc (.cells #[a, b, c] t)).cell? ((⟨w.heap.size, 0, none⟩ : Addr).add j) = some u := by
  have hr := row_new w #[a, b, c] t 3 rfl
  intro j u hu
  rw [cl.add_none]
  match j, hu with
  | 0, hu =>
    simp at hu
    subst hu
    exact (hr.cell (show 0 < 3 by omega) : _)
  | 1, hu =>
    simp at hu
    subst hu
    exact (hr.cell (show 1 < 3 by omega) : _)
  | 2, hu =>
    simp at hu
    subst hu
    exact (hr.cell (show 2 < 3 by omega) : _)
  | j + 3, hu => simp at hu
/-- the first nodes are made -/
structure NkS (wr : World) (lo : Nat) (ns : List Nd) (k : Nat) (v : Value) (xs : List Value) (LA : Nat → Option Addr) (LC : Nat → Nat) : Prop where
  own : wr.ownsRow lo 96 3 v k xs
  get : ∀ j, j < k * 3 → xs[j]? = some (ndv ns (lsF ns LA LC) j)
  row : ∀ i, i < k → RowR wr lo wr.heap.size 3 1 (LA i) (lnOf ns i) (LC i) (iat (linksOf ns i))
  ne : ∀ i j, i < j → j < k → LA j ≠ none → LA i ≠ LA j
section
variable {wr w' : World} {lo : Nat} {ns : List Nd} {k : Nat} {v : Value} {xs : List Value} {LA : Nat → Option Addr} {LC : Nat → Nat}
theorem NkS.on (h : NkS wr lo ns k v xs LA LC) (hb : Below wr.heap.size wr w') : NkS w' lo ns k v xs LA LC :=
  ⟨owns_on h.own hb, h.get, fun i hi => rowR_here ((h.row i hi).on hb), h.ne⟩
/-- one more node -/
theorem NkS.next {x : Nd} {v' : Value} {A : Option Addr} {c len B : Nat} (h : NkS wr lo ns k v xs LA LC) (hx : ns[k]? = some x) (hlen : len = x.links.length)
    (hA : RowR wr B wr.heap.size 3 1 A len c (iat x.links)) (hB : ∀ i, i < k → ∀ g, blk (LA i) g → g < B) (hlo : lo ≤ B)
    (ho : w'.ownsRow lo 96 3 v' (k + 1) (xs ++ [.int .i64 x.control, .int .i64 x.parent, .slice A len c])) (hg : wr.grownBy w' v.ownBlock) :
    NkS w' lo ns (k + 1) v' (xs ++ [.int .i64 x.control, .int .i64 x.parent, .slice A len c]) (fun j => if j = k then A else LA j) (fun j => if j = k then c else LC j) := by
  have hln : lnOf ns k = len := by unfold lnOf; rw [linksOf_at hx, hlen]
  have hxl : xs.length = k * 3 := h.own.1
  obtain ⟨q0, q1⟩ := ctOf_at hx
  refine ⟨ho, fun j hj => ?_, fun i hi => ?_, fun i j hij hj hno => ?_⟩
  · by_cases hj2 : j < k * 3
    · rw [List.getElem?_append_left (by omega), h.get j hj2]
      have hne : j / 3 ≠ k := by omega
      unfold ndv lsF
      simp only [if_neg hne]
    · rw [List.getElem?_append_right (by omega), hxl]
      have hjk : j / 3 = k := by omega
      have hm : j - k * 3 = j % 3 := by omega
      have h3 : j % 3 = 0 ∨ j % 3 = 1 ∨ j % 3 = 2 := by omega
      unfold ndv lsF
      rw [hjk, hm]
      rcases h3 with e | e | e
      · rw [e, if_pos rfl, q0]; rfl
      · rw [e, if_neg (by decide), if_pos rfl, q1]; rfl
      · rw [e, if_neg (by decide), if_neg (by decide)]; dsimp only; rw [if_pos rfl, if_pos rfl, hln]; rfl
  · by_cases e : i = k
    · subst e
      rw [if_pos rfl, if_pos rfl, hln, linksOf_at hx]
      exact rowR_here ((row_grown hA h.own hg (by decide)).wide hlo (Nat.le_refl _))
    · rw [if_neg e, if_neg e]
      exact rowR_here (row_grown (h.row i (by omega)) h.own hg (by decide))
  · show (if i = k then A else LA i) ≠ (if j = k then A else LA j)
    have hno : (if j = k then A else LA j) ≠ none := hno
    by_cases e : j = k
    · subst e
      rw [if_pos rfl] at hno
      rw [if_neg (by omega), if_pos rfl]
      intro e2
      rcases hA with ⟨e0, -, -⟩ | ⟨g, f, e0, b1, b2, -⟩
      · exact hno e0
      · have := hB i hij g (by rw [blk, e2, e0])
        omega
    · rw [if_neg e] at hno
      rw [if_neg (by omega), if_neg e]
      exact h.ne i j hij (by omega) hno
end
set_option maxRecDepth 20000 in
set_option maxHeartbeats 12800000 in
theorem ndk_any (v : Value) (b : Big) (y : Int) (Az : Option Addr) (nz cz : Nat) (zs : List Int) (Ak : Option Addr) (nk ck : Nat) (lks : List Int) (w : World) (hv : BigAt w w.heap.size v b) (hz : IntsAt w w.heap.size Az nz zs) (hk : IntsAt w w.heap.size Ak nk lks) (hnz : nz ≤ 1048576) (hnk : nk ≤ 1048576) (hy : 0 ≤ y ∧ y ≤ 1000) (hn : b.nodes.length ≤ 8)
    (hp : ∀ x ∈ b.nodes, -(nz : Int) ≤ x.parent ∧ x.parent ≤ 1000) (h3 : ∀ x ∈ b.nodes, x.links.length ≤ 3) (hl : ∀ x ∈ b.nodes, ∀ l ∈ x.links, 0 ≤ l ∧ l < nk) :
    Calls Tryz.prog 102 #[v, .int .i64 y, .slice Az nz cz, .slice Ak nk ck] w fun e w' => ∃ (v' : Value) (xs : List Value) (LA : Nat → Option Addr) (LC : Nat → Nat), e = .returned v' ∧ NkS w' w.heap.size (ndK b zs y lks) b.nodes.length v' xs LA LC ∧ Below w.heap.size w w' := by
  obtain ⟨A1, n1, c1, A2, n2, c2, A4, n4, c4, A5, n5, c5, rfl, h1, h2, h4, h5⟩ := hv
  have hl1 : b.nodes.length = n1 := h1.1
  have HL1 := Lib.hid hl1
  rw [hl1] at hn ⊢
  have HBox0 : Hid (BoxAt (w.alloc (.cells #[.int .i64 b.roots, .slice A1 n1 c1, .slice A2 n2 c2, .int .i64 b.edges, .slice A4 n4 c4, .slice A5 n5 c5] 31)) w.heap.size 31 (.int .i64 b.roots) (.slice A1 n1 c1) (.slice A2 n2 c2) (.int .i64 b.edges) (.slice A4 n4 c4) (.slice A5 n5 c5)) := Lib.hid (six_new w _ _ _ _ _ _ _)
  have hb0 := (Below.refl w.heap.size w).alloc (Nat.le_refl _) (.cells #[.int .i64 b.roots, .slice A1 n1 c1, .slice A2 n2 c2, .int .i64 b.edges, .slice A4 n4 c4, .slice A5 n5 c5] 31)
  obtain ⟨U, hU⟩ : ∃ U, w.alloc (.cells #[.int .i64 b.roots, .slice A1 n1 c1, .slice A2 n2 c2, .int .i64 b.edges, .slice A4 n4 c4, .slice A5 n5 c5] 31) = U := ⟨_, rfl⟩
  have hUz : U.heap.size = w.heap.size + 1 := by rw [← hU]; simp
  rw [hU] at HBox0 hb0
  have HUq := Lib.hid hU
  have HB0 := Lib.hid hb0
  obtain ⟨i1, hi, hz0, hz1, hz2⟩ := info_parts node_info
  have HI1 := Lib.hid (And.intro hi (And.intro hz0 (And.intro hz1 hz2)))
  obtain ⟨i0, hi', hz0', hz1', hz2'⟩ := info_parts int_info
  have HI := Lib.hid (And.intro hi' (And.intro hz0' (And.intro hz1' hz2')))
  have HOt := Lib.hid (ownsRow_nil_new U 96 3 U.heap.size (Nat.le_refl _))
  rw [hUz] at HOt
  have HbV := Lib.hid ((Below.refl U.heap.size U).alloc (Nat.le_refl _) (.cells #[] 96))
  have HLk := Lib.hid hl
  have HPp := Lib.hid hp
  have H3 := Lib.hid h3
  have HK := Lib.hid hk
  have HZ := Lib.hid hz
  have HNl : Hid ((ndK b zs y lks).length = n1) := Lib.hid (by unfold ndK; rw [List.length_map]; exact hl1)
  have HPar := Lib.hid (fun (p : Int) (Y : World) (hY : Below w.heap.size w Y) (hpp : -(nz : Int) ≤ p ∧ p ≤ 1000) => par_any Az nz cz zs y p Y _ (hz.below hY) hpp.1 hnz (by omega) (by omega))
  obtain ⟨NS, hNS⟩ : ∃ NS, ndK b zs y lks = NS := ⟨_, rfl⟩
  have HNS := Lib.hid hNS
  rw [hNS] at HNl ⊢
  clear hb0 hU hi hz0 hz1 hz2 hi' hz0' hz1' hz2' hl hk hl1 hp h3 hz hNS
  go_enter Tryz.func102, Tryz.ntmps102
  go_wp2_with fail
  rw [HUq.out]
  have hWs : w.heap.size < U.heap.size := by omega
  clear HUq
  go_loopw [9, 10] (fun l i wr => ∃ (k : Nat) (v : Value) (xs : List Value) (LA : Nat → Option Addr) (LC : Nat → Nat), k ≤ n1 ∧ i = .int .i64 k ∧ v = l ∧ NkS wr (w.heap.size + 1) NS k v xs LA LC ∧ Below U.heap.size U wr) (fun _ i _ => n1 - (intOf i).toNat)
  case atStart => exact ⟨0, _, [], fun _ => none, fun _ => 0, Nat.zero_le _, rfl, rfl, ⟨HOt.out, fun j hj => by omega, fun i hi => absurd hi (Nat.not_lt_zero i), fun i j _ hj => absurd hj (Nat.not_lt_zero j)⟩, HbV.out⟩
  case round =>
    obtain ⟨k, v, xs, LA, LC, hk, rfl, rfl, hS, hbel⟩ := hrel
    rename World => wo
    have hbw := HB0.out.trans (hbel.mono HB0.out.size)
    have hwU := hbel.size
    obtain ⟨x0, x1, x2, x3, x4, x5⟩ := (HBox0.out.below hbel hWs).get
    by_cases hlt : k < n1
    · obtain ⟨b1, off1, x, rfl, hb1, hx, cc, cp, Al, nl, cl', c2', hil⟩ := h1.get hlt
      have hxm := List.mem_of_getElem? hx
      have hpx := HPp.out x hxm
      have hnl : x.links.length = nl := hil.len
      have hnl3 : nl ≤ 3 := by have := H3.out x hxm; omega
      have q2 := (hbw.cell (p := ⟨b1, off1 + k * 3 + 2, none⟩) hb1).trans c2'
      have HNk : Hid (NS[k]? = some ⟨x.control, pcF zs y x.parent, x.links.map (lkF lks)⟩) := Lib.hid (by rw [← HNS.out]; unfold ndK; rw [List.getElem?_map, hx]; rfl)
      have HSo := Lib.hid hS
      have HBe := Lib.hid hbel
      have HIl := Lib.hid hil
      have HCc := Lib.hid cc
      have HCp := Lib.hid cp
      have HC2 := Lib.hid c2'
      have HXl := Lib.hid (HLk.out x hxm)
      have HNL := Lib.hid hnl
      have HOi := Lib.hid (ownsRow_nil_new wo 3 1 wo.heap.size (Nat.le_refl _))
      have HbI := Lib.hid ((Below.refl wo.heap.size wo).alloc (Nat.le_refl _) (.cells #[] 3))
      have HXk := Lib.hid hx
      clear hx cc cp c2' hil hS hbel hnl hxm
      go_wp2_with fail
      clear x0 x1 x2 x3 x4 x5 q2
      go_loopw [11, 12] (fun l i wr => ∃ (m : Nat) (v2 : Value), m ≤ nl ∧ i = .int .i64 m ∧ v2 = l ∧ wr.ownsRow wo.heap.size 3 1 v2 m (((x.links.take m).map (lkF lks)).map (Value.int .i64)) ∧ Below wo.heap.size wo wr) (fun _ i _ => nl - (intOf i).toNat)
      case atStart => exact ⟨0, _, Nat.zero_le _, rfl, rfl, HOi.out, HbI.out⟩
      case round =>
        obtain ⟨m, v2, hm, rfl, rfl, hown, hbi⟩ := hrel
        rename World => wq
        have hbe := HBe.out.trans (hbi.mono HBe.out.size)
        have hbq := HB0.out.trans (hbe.mono HB0.out.size)
        have hwq := hbi.size
        obtain ⟨x0, x1, x2, x3, x4, x5⟩ := (HBox0.out.below hbe hWs).get
        have q2 := (hbq.cell (p := ⟨b1, off1 + k * 3 + 2, none⟩) hb1).trans HC2.out
        by_cases hlm : m < nl
        · obtain ⟨bl, ol, l, rfl, hbl, hlz, ctl⟩ := HIl.out.get hlm
          have hlr := HXl.out l (List.mem_of_getElem? hlz)
          obtain ⟨li, rfl⟩ : ∃ li : Nat, l = li := ⟨l.toNat, by omega⟩
          have hlin : li < nk := by omega
          obtain ⟨bk, ok, T, rfl, hbk, hT, ct⟩ := HK.out.get hlin
          have q3 := (hbq.cell (p := ⟨bl, ol + m, none⟩) hbl).trans ctl
          have q4 := (hbq.cell (p := ⟨bk, ok + li, none⟩) hbk).trans ct
          have HTk2 : Hid (((x.links.take (m + 1)).map (lkF lks)).map (Value.int .i64) = ((x.links.take m).map (lkF lks)).map (Value.int .i64) ++ [.int .i64 T]) := Lib.hid (by rw [List.take_add_one, hlz]; simp only [Option.toList_some, List.map_append, List.map_cons, List.map_nil]; rw [lkF_get hT])
          obtain ⟨D, hD⟩ : ∃ D, ((x.links.take m).map (lkF lks)).map (Value.int .i64) = D := ⟨_, rfl⟩
          rw [hD] at hown HTk2
          have HGr := Lib.hid (fun (w1 : World) (hg1 : (wq.alloc (.cells #[.int .i64 T] 3)).grownBy w1 v2.ownBlock) => (hbi.alloc hbi.size (.cells #[.int .i64 T] 3)).grown hg1 (by simp; omega) (fun j hj => (hown.lt j hj).1))
          clear hlz ctl hT ct hD hbi hbe hlr
          go_wp2_with (at_builtin; refine wpList_append_own _ rfl _ _ 27 rfl wo.heap.size 3 i0 (.int .i64 0) 1 8 Tryz.underlying27 HI.out.1 HI.out.2.1 HI.out.2.2.1 HI.out.2.2.2 rfl (by decide) _ _ _ rfl (hown.alloc _) ⟨wq.heap.size, 0, none⟩ 1 1 [.int .i64 T] rfl rfl (cell_one_new _ _ _) (fun x hx => by simp at hx; subst hx; rfl) (by unfold maxLen; omega) (by omega) (by simp; omega) ?_; intro v1 w1 hown1 hgrow1 hnil1; have HB1 := Lib.hid (HGr.out w1 hgrow1); have HO1 := Lib.hid hown1; clear x0 x1 x2 x3 x4 x5 q2 q3 q4 hbq)
          clear hown1 hgrow1 hnil1 hown
          go_wp2_with fail
          go_roundw
          case rel => exact ⟨m + 1, _, by omega, by go_num, rfl, by rw [HTk2.out]; exact HO1.out, HB1.out⟩
          case measure => simp [intOf]; omega
        · obtain rfl : m = nl := by omega
          rw [List.take_of_length_le (by rw [HNL.out]; exact Nat.le_refl _)] at hown
          obtain ⟨Aq, cq, rfl, hrq⟩ := ints_owned hown
          have hlen : (x.links.map (lkF lks)).length = m := by rw [List.length_map]; exact HNL.out
          rw [hlen] at hrq ⊢
          have HRq := Lib.hid hrq
          obtain ⟨T, hT⟩ : ∃ T, pcF zs y x.parent = T := ⟨_, rfl⟩
          have HTq := Lib.hid hT
          have CT := fun Y hY => hT ▸ HPar.out x.parent Y hY hpx
          have HSq := Lib.hid (HSo.out.on hbi)
          have HBq := Lib.hid hbe
          have hqw := hbe.size
          have HS : Hid (∀ w', Below U.heap.size U w' → w'.cell? ⟨w.heap.size, 1, none⟩ = some (.slice (some ⟨b1, off1, none⟩) n1 c1) ∧ w'.cell? ⟨b1, off1 + k * 3, none⟩ = some (.int .i64 x.control) ∧ w'.cell? ⟨b1, off1 + k * 3 + 1, none⟩ = some (.int .i64 x.parent)) := Lib.hid (fun w' hq => by
            have hqw := HB0.out.trans (hq.mono HB0.out.size)
            exact ⟨(HBox0.out.below hq hWs).get.2.1, (hqw.cell (p := ⟨b1, off1 + k * 3, none⟩) hb1).trans HCc.out, (hqw.cell (p := ⟨b1, off1 + k * 3 + 1, none⟩) hb1).trans HCp.out⟩)
          have e1 : k + 1 ≤ maxLen := by unfold maxLen; omega
          have e2 : (k + 1) * 40 ≤ 140737488355328 := by omega
          have e4' : ∀ u ∈ [Value.int .i64 x.control, .int .i64 T, .slice Aq m cq], u.oneCell' = true := fun u hu => by
            simp at hu
            rcases hu with rfl | rfl | rfl <;> rfl
          have hkD := hbe.drew
          have hwD := hbq.drew
          have hkW := ((Below.refl wq.heap.size wq).drew).alloc (Nat.le_refl _) (.cells #[.int .i64 x.control, .int .i64 T, .slice Aq m cq] 96)
          have hkA := hkD.alloc hkD.size (.cells #[.int .i64 x.control, .int .i64 T, .slice Aq m cq] 96)
          have HSA := Lib.hid (HSq.out.on hkW)
          have HRA := Lib.hid (rowR_here (HRq.out.on hkW))
          have e3 : w.heap.size + 1 ≤ (wq.drew.alloc (.cells #[.int .i64 x.control, .int .i64 T, .slice Aq m cq] 96)).heap.size := by have := hkA.size; omega
          have HGr := Lib.hid (fun (w1 : World) (hg1 : (wq.drew.alloc (.cells #[.int .i64 x.control, .int .i64 T, .slice Aq m cq] 96)).grownBy w1 v.ownBlock) => hkA.grown hg1 hkA.size (fun j hj => by have := (HSo.out.own.lt j hj).1; omega))
          clear hown hrq hT hbi hbq hlen hkW hkA
          go_wp2_with fail
          clear x0 x1 x2 x3 x4 x5 q2
          refine rh.go_begin 20 (fun w' => w'.cell? ⟨w.heap.size, 1, none⟩ = some (.slice (some ⟨b1, off1, none⟩) n1 c1) ∧ w'.cell? ⟨b1, off1 + k * 3, none⟩ = some (.int .i64 x.control) ∧ w'.cell? ⟨b1, off1 + k * 3 + 1, none⟩ = some (.int .i64 x.parent)) (by kernel_rfl) ?_ (fun hHeld => ?_)
          · ((try dsimp only); exact HS.out _ (by go_grown))
          refine rh.go_take (i := 0) (v := ?v1) rfl (by kernel_rfl) (fun _ _ _ h => h) (Or.inl ⟨by rfl, ?hy1⟩) (by assumption) ?rest1
          case hy1 => (intro wS hSw; (try dsimp only at hSw); go_simp; try (with_reducible rfl))
          try simp only [Act.put, List.setIfInBounds_toArray, List.set_cons_zero, List.set_cons_succ]
          refine rh.go_take (i := 1) (v := ?v2) rfl (by kernel_rfl) (fun _ _ _ h => h) (Or.inl ⟨by rfl, ?hy2⟩) (by assumption) ?rest2
          case hy2 => (intro wS hSw; (try dsimp only at hSw); go_simp; try (with_reducible rfl))
          try simp only [Act.put, List.setIfInBounds_toArray, List.set_cons_zero, List.set_cons_succ]
          refine rh.go_take (i := 2) (v := ?v3) rfl (by kernel_rfl) (fun _ _ _ h => h) (Or.inl ⟨by rfl, ?hy3⟩) (by assumption) ?rest3
          case hy3 => (intro wS hSw; (try dsimp only at hSw); go_simp; try (with_reducible rfl))
          try simp only [Act.put, List.setIfInBounds_toArray, List.set_cons_zero, List.set_cons_succ]
          refine rh.go_take (i := 3) (v := ?v4) rfl (by kernel_rfl) (fun _ _ _ h => h) (Or.inl ⟨by rfl, ?hy4⟩) (by assumption) ?rest4
          case hy4 => (intro wS hSw; (try dsimp only at hSw); go_simp; try (with_reducible rfl))
          try simp only [Act.put, List.setIfInBounds_toArray, List.set_cons_zero, List.set_cons_succ]
          refine rh.go_take (i := 4) (v := ?v5) rfl (by kernel_rfl) (fun _ _ _ h => h) (Or.inl ⟨by rfl, ?hy5⟩) (by assumption) ?rest5
          case hy5 => (intro wS hSw; (try dsimp only at hSw); go_simp; try (with_reducible rfl))
          try simp only [Act.put, List.setIfInBounds_toArray, List.set_cons_zero, List.set_cons_succ]
          refine rh.go_take (i := 5) (v := ?v6) rfl (by kernel_rfl) (fun _ _ _ h => h) (Or.inl ⟨by rfl, ?hy6⟩) (by assumption) ?rest6
          case hy6 => (intro wS hSw; (try dsimp only at hSw); go_simp; try (with_reducible rfl))
          try simp only [Act.put, List.setIfInBounds_toArray, List.set_cons_zero, List.set_cons_succ]
          refine rh.go_take (i := 6) (v := ?v7) rfl (by kernel_rfl) (fun _ _ _ h => h) (Or.inl ⟨by rfl, ?hy7⟩) (by assumption) ?rest7
          case hy7 => (intro wS hSw; (try dsimp only at hSw); go_simp; try (with_reducible rfl))
          try simp only [Act.put, List.setIfInBounds_toArray, List.set_cons_zero, List.set_cons_succ]
          refine rh.go_take (i := 7) (v := ?v8) rfl (by kernel_rfl) (fun _ _ _ h => h) (Or.inl ⟨by rfl, ?hy8⟩) (by assumption) ?rest8
          case hy8 => (intro wS hSw; (try dsimp only at hSw); go_simp; try (with_reducible rfl))
          try simp only [Act.put, List.setIfInBounds_toArray, List.set_cons_zero, List.set_cons_succ]
          refine rh.go_take (i := 8) (v := ?v9) rfl (by kernel_rfl) (fun _ _ _ h => h) (Or.inl ⟨by rfl, ?hy9⟩) (by assumption) ?rest9
          case hy9 => (intro wS hSw; (try dsimp only at hSw); go_simp; try (with_reducible rfl))
          try simp only [Act.put, List.setIfInBounds_toArray, List.set_cons_zero, List.set_cons_succ]
          refine rh.go_take (i := 9) (v := ?v10) rfl (by kernel_rfl) (fun _ _ _ h => h) (Or.inl ⟨by rfl, ?hy10⟩) (by assumption) ?rest10
          case hy10 => (intro wS hSw; (try dsimp only at hSw); go_simp; try (with_reducible rfl))
          try simp only [Act.put, List.setIfInBounds_toArray, List.set_cons_zero, List.set_cons_succ]
          refine rh.go_take (i := 10) (v := ?v11) rfl (by kernel_rfl) (fun _ _ _ h => h) (Or.inl ⟨by rfl, ?hy11⟩) (by assumption) ?rest11
          case hy11 => (intro wS hSw; (try dsimp only at hSw); go_simp; try (with_reducible rfl))
          try simp only [Act.put, List.setIfInBounds_toArray, List.set_cons_zero, List.set_cons_succ]
          refine rh.go_take (i := 11) (v := ?v12) rfl (by kernel_rfl) (fun _ _ _ h => h) (Or.inl ⟨by rfl, ?hy12⟩) (by assumption) ?rest12
          case hy12 => (intro wS hSw; (try dsimp only at hSw); go_simp; try (with_reducible rfl))
          try simp only [Act.put, List.setIfInBounds_toArray, List.set_cons_zero, List.set_cons_succ]
          refine rh.go_take (i := 12) (v := ?v13) rfl (by kernel_rfl) (fun _ _ _ h => h) (Or.inl ⟨by rfl, ?hy13⟩) (by assumption) ?rest13
          case hy13 => (intro wS hSw; (try dsimp only at hSw); go_simp; try (with_reducible rfl))
          try simp only [Act.put, List.setIfInBounds_toArray, List.set_cons_zero, List.set_cons_succ]
          refine rh.go_take (i := 13) (v := ?v14) rfl (by kernel_rfl) (fun _ _ _ h => h) (Or.inl ⟨by rfl, ?hy14⟩) (by assumption) ?rest14
          case hy14 => (intro wS hSw; (try dsimp only at hSw); go_simp; try (with_reducible rfl))
          try simp only [Act.put, List.setIfInBounds_toArray, List.set_cons_zero, List.set_cons_succ]
          refine rh.go_take (i := 14) (v := ?v15) rfl (by kernel_rfl) (fun _ _ _ h => h) (Or.inl ⟨by rfl, ?hy15⟩) (by assumption) ?rest15
          case hy15 => (intro wS hSw; (try dsimp only at hSw); go_simp; try (with_reducible rfl))
          try simp only [Act.put, List.setIfInBounds_toArray, List.set_cons_zero, List.set_cons_succ]
          refine rh.go_take (i := 16) (v := ?v16) rfl (by kernel_rfl) (fun _ _ _ h => h) (Or.inl ⟨by rfl, ?hy16⟩) (by assumption) ?rest16
          case hy16 => (intro wS hSw; (try dsimp only at hSw); go_simp; try (with_reducible rfl))
          try simp only [Act.put, List.setIfInBounds_toArray, List.set_cons_zero, List.set_cons_succ]
          refine rh.go_next (i := 15) rfl (by kernel_rfl) (fun K2 hK => ?_)
          (go_simp; go_at_call 119; refine (CT _ hwD).mono ?_; rintro e w2 ⟨rfl, rfl⟩; go_wp2_with fail)
          refine hK.out _ _ ?_ (fun hHeld => ?_)
          · ((try dsimp only); exact HS.out _ (by go_grown))
          clear hK K2
          try simp only [Act.put, List.setIfInBounds_toArray, List.set_cons_zero, List.set_cons_succ]
          refine rh.go_take (i := 17) (v := ?v17) rfl (by kernel_rfl) (fun _ _ _ h => h) (Or.inl ⟨by rfl, ?hy17⟩) (by assumption) ?rest17
          case hy17 => (intro wS hSw; (try dsimp only at hSw); go_simp; try (with_reducible rfl))
          try simp only [Act.put, List.setIfInBounds_toArray, List.set_cons_zero, List.set_cons_succ]
          refine rh.go_next (i := 18) rfl (by kernel_rfl) (fun K2 hK => ?_)
          go_simp
          refine hK.out _ _ ?_ (fun hHeld => ?_)
          · ((try dsimp only); exact HS.out _ (by go_grown))
          clear hK K2
          try simp only [Act.put, List.setIfInBounds_toArray, List.set_cons_zero, List.set_cons_succ]
          refine rh.go_next (i := 19) rfl (by kernel_rfl) (fun K2 hK => ?_)
          (refine step_append_own rfl _ _ 26 rfl (w.heap.size + 1) 96 i1 (.agg #[.int .i64 0, .int .i64 0, .slice none 0 0]) 3 40 Tryz.underlying26 HI1.out.1 HI1.out.2.1 HI1.out.2.2.1 HI1.out.2.2.2 rfl (by decide) _ _ _ (by first | rfl | simp [Act.eval, Act.put]) HSA.out.own ⟨wq.drew.heap.size, 0, none⟩ 1 1 [.int .i64 x.control, .int .i64 T, .slice Aq m cq] (by first | rfl | simp [Act.eval, Act.put]) rfl (cells_three_new wq.drew (.int .i64 x.control) (.int .i64 T) (.slice Aq m cq) 96) e4' e1 e2 e3 ?_; intro v1 w5 hown1 hgrow1 hnil1; have HOw5 := Lib.hid hown1; have HG5 := Lib.hid hgrow1; have hq5 := HGr.out _ hgrow1; clear hgrow1 hnil1 hown1; (try go_simp))
          refine hK.out _ _ ?_ (fun hHeld => ?_)
          · ((try dsimp only); exact HS.out _ (by go_grown))
          clear hK K2
          try simp only [Act.put, List.setIfInBounds_toArray, List.set_cons_zero, List.set_cons_succ]
          refine rh.go_last rfl (by kernel_rfl) (fun K2 hK => ?_)
          go_simp
          refine hK.out _ _ ?_
          refine NoPanic.normal ?_
          clear hK K2
          have hnx := NkS.next (A := Aq) (c := cq) (len := m) (B := wo.heap.size) HSA.out HNk.out (by simp only [List.length_map]; exact HNL.out.symm) HRA.out (fun i hi g hg => ((HSo.out.row i hi).in_ hg).2) (by omega) (by rw [HTq.out]; exact HOw5.out) HG5.out
          rw [HTq.out] at hnx
          have HNx := Lib.hid hnx
          clear hnx
          go_wp2_with fail
          go_roundw
          case rel => exact ⟨k + 1, _, _, _, _, by omega, by go_num, rfl, HNx.out, hq5⟩
          case measure => simp [intOf]; omega
    · obtain rfl : n1 = k := by omega
      have HR : Hid (NkS wo w.heap.size NS n1 v xs LA LC) := Lib.hid ⟨by
        obtain ⟨a, b⟩ := hS.own
        exact ⟨a, b.imp id (fun ⟨g, cap, cur, e, hb, r⟩ => ⟨g, cap, cur, e, by omega, r⟩)⟩, hS.get, fun i hi => (hS.row i hi).wide (Nat.le_succ _) (Nat.le_refl _), hS.ne⟩
      have HBw := Lib.hid hbw
      clear hS hbel hbw
      go_wp2_with fail
      go_ret
      exact ⟨_, xs, LA, LC, rfl, HR.out, HBw.out⟩
end Go.Proofs.YtlpgldejmdiceabGreat.nk
