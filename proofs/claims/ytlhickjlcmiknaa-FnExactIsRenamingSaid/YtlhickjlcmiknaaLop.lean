/- The links of all points: impl.linksOfPoints, an iterator that ranges over another one. -/
import Derived.Test.YtlhickjlcmiknaaQf
import Derived.Test.YtlhickjlcmiknaaRfo
import Derived.Maps.AppendAt
import Derived.Lib.BufferOwn
namespace Go.Proofs.Ytlhickjlcmiknaa.lop
open kit bg opn strs only hb sg sig isig un gd inn ht hi cf pt ptm lf ib rs rt pts psp rfo
open Go.RowKit
set_option linter.unusedVariables false
attribute [local go_sem] Oper.semAt_some

def lnk (p : Port) : Int := p.2.2
def lks (b : Big) : List Int := (ports b.nodes).map lnk ++ b.inner.map Wr.link

theorem own_up {α β : Type} {B B' : Nat} {J : List α → World → Prop} {f : List β → List α} (h : OwnFrom B J) (hB : B ≤ B') : OwnFrom B' (fun pre W => J (f pre) W) :=
  fun s W W' row hs hg hr => h _ W W' row hs hg (fun r e => ⟨Nat.le_trans hB (hr r e).1, (hr r e).2⟩)
theorem own_grown {β : Type} {p : Nat} {B : Nat} {w₀ : World} (hB : w₀.heap.size ≤ B) : OwnFrom B (fun (_ : β) W => w₀.grownBy W (some p)) :=
  fun s W W' row hs hg hr => ⟨hg.os.trans hs.os, hg.tape.trans hs.tape, hg.output.trans hs.output, Nat.le_trans hs.size hg.size, fun k hk hne =>
    (hg.block k (Nat.lt_of_lt_of_le hk hs.size) (fun e => by have := (hr k e.symm).1; omega)).trans (hs.block k hk hne)⟩

set_option maxRecDepth 100000 in
set_option maxHeartbeats 6400000 in
theorem lop_gives (β n₀ p : Nat) (A1 : Option Addr) (n1 c1 : Nat) (A5 : Option Addr) (n5 c5 : Nat) (v0 v2 v3 v4 : Value) (b : Big) (w : World) (hβ : β < w.heap.size) (hβp : β ≠ p) (hnp : n₀ ≤ p) (hp : p < w.heap.size)
    (hbox : BoxAt w β 38 v0 (.slice A1 n1 c1) v2 v3 v4 (.slice A5 n5 c5)) (hN : NdsAt w n₀ A1 n1 b.nodes) (hI : WrsAt w n₀ A5 n5 b.inner) (hn1 : n1 ≤ 1048576) (hn5 : n5 ≤ 1048576) (hlk : ∀ x ∈ b.nodes, x.links.length ≤ 1048576) :
    Gives Fence.wide 8 Try.prog 106 #[.pointer (some ⟨β, 0, none⟩)] (fun z : Int => #[.int .i64 z]) p (lks b) w := by
  intro l J W hW hJ hY h0
  have hzW := hW.size
  have HBx := Lib.hid (hbox.below hW hβ)
  have hNW := hN.below (hW.mono (by omega))
  have hIW := hI.below (hW.mono (by omega))
  have HY := Lib.hid hY
  have HJ := Lib.hid hJ
  have HLk := Lib.hid hlk
  have H0 := Lib.hid h0
  clear hY hJ hlk h0 hbox hN hI hW
  obtain ⟨W1, hW1⟩ : ∃ W1, W.alloc (.cells #[.func (.yield l) #[] #[]] 114) = W1 := ⟨_, rfl⟩
  have hz1 : W1.heap.size = W.heap.size + 1 := by rw [← hW1]; simp
  have hYb : Boxed W1 W.heap.size 114 (.func (.yield l) #[] #[]) := by rw [← hW1]; exact Boxed.new _ _ _
  have HB1 : Hid (BoxAt W1 β 38 v0 (.slice A1 n1 c1) v2 v3 v4 (.slice A5 n5 c5)) := Lib.hid (by rw [← hW1]; exact HBx.out.below ((Below.refl W.heap.size W).alloc (Nat.le_refl _) _) (by omega))
  obtain ⟨x0, x1, x2, x3, x4, x5⟩ := HB1.out.get
  have HWq := Lib.hid hW1
  clear hW1
  refine callsIn_of_wp_marks Try.func106 rfl trivial ?_ rfl
  simp only [Try.ntmps106, List.size_toArray, List.length_cons, List.length_nil, Nat.reduceAdd, Nat.reduceSub, Array.replicate_succ, Array.replicate_zero, List.push_toArray, List.append_toArray, List.nil_append, List.cons_append]
  rw [← HWq.out] at x0 x1 x2 x3 x4 x5
  gi_wp2
  refine ⟨trivial, (portsOf_in Fence.wide _ trivial rfl #[v0, .slice A1 n1 c1, v2, v3, v4, .slice A5 n5 c5] rfl _).mono ?_⟩
  rintro e w' ⟨rfl, rfl⟩
  rw [HWq.out]
  have hbx : Hid (BoxAt (W1.alloc (.cells #[v0, .slice A1 n1 c1, v2, v3, v4, .slice A5 n5 c5] 38)) W1.heap.size 38 v0 (.slice A1 n1 c1) v2 v3 v4 (.slice A5 n5 c5)) := Lib.hid (six_new W1 _ _ _ _ _ _ _)
  have hb2 := (Below.refl W1.heap.size W1).alloc (Nat.le_refl _) (.cells #[v0, .slice A1 n1 c1, v2, v3, v4, .slice A5 n5 c5] 38)
  obtain ⟨W2, hW2⟩ : ∃ W2, W1.alloc (.cells #[v0, .slice A1 n1 c1, v2, v3, v4, .slice A5 n5 c5] 38) = W2 := ⟨_, rfl⟩
  have hz2 : W2.heap.size = W.heap.size + 2 := by rw [← hW2]; simp; omega
  have hJ2 : J [] W2 := by rw [← hW2, ← HWq.out]; exact HJ.out.alloc _ (HJ.out.alloc _ H0.out)
  rw [hW2] at hbx hb2 ⊢
  have hbW2 : Below W.heap.size W W2 := by rw [← hW2, ← HWq.out]; exact ((Below.refl _ W).alloc (Nat.le_refl _) _).alloc (by simp) _
  have hYb2 : Boxed W2 W.heap.size 114 (.func (.yield l) #[] #[]) := (hb2.block _ (by omega)).trans hYb
  have HB2 := Lib.hid (HB1.out.below hb2 (by omega))
  have hN2 := hNW.below (hbW2.mono (by omega))
  rw [hz1] at hbx
  clear hW2 hb2 x0 x1 x2 x3 x4 x5
  gi_wp2
  refine wpIn_rangeFunc_ownG rfl (by omega) (gf := 105) (lb := #[.pointer (some ⟨W.heap.size + 1, 0, none⟩)]) rfl trivial (enters_of Try.func105 (by kernel_rfl) rfl)
    (ports_stopsM Fence.wide _ trivial rfl (by omega) (W.heap.size + 1) n₀ A1 n1 c1 b.nodes W2 (by omega) (by omega) (hbx.out.get).2.1 hN2 hn1 HLk.out) belowK_t (belowK_b (by omega)) (Below.refl _ _) (fun _ => rfl)
    (fun pre W' => J (pre.map fun x => lnk x.val) W' ∧ W2.grownBy W' (some p))
    (fun _ _ _ => False)
    (OwnFrom.and (own_up (f := fun pre : List (PortOf b.nodes) => pre.map fun x => lnk x.val) HJ.out (by omega)) (own_grown (Nat.le_refl _)))
    (fun _ _ _ _ _ hs _ _ => hs)
    ⟨hJ2, World.grownBy.refl _ _⟩
    (fun x => { tmps := #[.func (.yield l) #[] #[], .pointer (some ⟨β, 0, none⟩), .pointer (some ⟨W.heap.size, 0, none⟩), undef, .int .i64 (lnk x.val), undef, undef, .agg #[v0, .slice A1 n1 c1, v2, v3, v4, .slice A5 n5 c5], .func (.func 105) #[] #[.pointer (some ⟨W.heap.size + 1, 0, none⟩)], .agg #[.int .i64 (x.val.1 : Nat), .int .i64 (x.val.2.1 : Nat)], .int .i64 (lnk x.val), undef, undef, undef, undef, undef, undef, undef, undef, undef, undef, undef, undef, undef, undef, undef, undef, undef], defers := [] }) ?assign ?body ?done ?stop
  case assign =>
    intro l' x W' K hK
    dsimp only [encP]
    gi_wp2
    exact hK
  case body =>
    rintro l' pre x W' ⟨hj, hg⟩ hlt
    have hsz := hg.size
    have hYb3 : Boxed W' W.heap.size 114 (.func (.yield l) #[] #[]) := (hg.block _ (by omega) (fun e => by injection e with e; omega)).trans hYb2
    have c2 := hYb3.cell
    have hmem : lnk x.val ∈ lks b := List.mem_append_left _ (List.mem_map.2 ⟨x.val, x.2, rfl⟩)
    have hlen : (pre.map fun x => lnk x.val).length < (lks b).length := by
      unfold lks
      rw [List.length_append, List.length_map, List.length_map]
      omega
    obtain ⟨fn, tmps, assign, body, hy, hR⟩ := HY.out _ (lnk x.val) W' hj ⟨hmem, hlen⟩
    have HR := Lib.hid (round_in (l' := l') (n' := 8 - 1 - 1 - 1) hR)
    have HG := Lib.hid hg
    have hn0 : n₀ ≤ W'.heap.size := by omega
    have hpW : p < W2.heap.size := by omega
    clear hR hj hg hmem hlen
    gi_wp2
    refine HR.out.mono ?_
    rintro e W3 ⟨rfl, hJ3, hg3⟩
    have HJ3 := Lib.hid hJ3
    have HG3 := Lib.hid hg3
    clear hJ3 hg3
    gi_wp2
    refine ⟨KeepsFrom.of_grownBy HG3.out (fun j e => by injection e with e; omega), (Below.refl n₀ W').grown HG3.out hn0 (fun k e => by injection e with e; omega), ?_, HG.out.trans HG3.out⟩
    rw [List.map_append]
    exact HJ3.out
  case done =>
    rintro D ys W' hD hys ⟨hj, hg⟩ hK
    have hys' : ys.map PortOf.val = ports b.nodes := hys
    have hj' : J ((ports b.nodes).map lnk) W' := by rw [← hys', List.map_map]; exact hj
    have hsz := hg.size
    have hB3 : BoxAt W' β 38 v0 (.slice A1 n1 c1) v2 v3 v4 (.slice A5 n5 c5) := World.rowIs.of_block HB2.out (hg.block β (by omega) (fun e => by injection e with e; omega))
    obtain ⟨x0, x1, x2, x3, x4, x5⟩ := hB3.get
    have hYb3 : Boxed W' W.heap.size 114 (.func (.yield l) #[] #[]) := (hg.block _ (by omega) (fun e => by injection e with e; omega)).trans hYb2
    have hI3 := hIW.below ((hbW2.mono (by omega)).grown hg (by omega) (fun k e => by injection e with e; omega))
    have HJ3 := Lib.hid hj'
    have HK := Lib.hid hK
    have HL5 := Lib.hid hI3.1
    have hDl := lt_of_block hK
    clear hys hys' hj hj' hg hK hB3
    gi_wp2
    gi_loopw [18] (fun i wr => ∃ k : Nat, k ≤ n5 ∧ i = .int .i64 k ∧ J ((ports b.nodes).map lnk ++ (b.inner.take k).map Wr.link) wr ∧ W'.grownBy wr (some p)) (fun i _ => n5 - (intOf i).toNat)
    case atStart => exact ⟨0, Nat.zero_le _, rfl, by simpa using HJ3.out, World.grownBy.refl _ _⟩
    case round =>
      obtain ⟨k, hk, rfl, hjk, hgk⟩ := hrel
      have hszk := hgk.size
      by_cases hlt : k < n5
      · obtain ⟨b2, off, x, rfl, hbb, hx, c0, c1'⟩ := hI3.get hlt
        have hIk := (Below.refl n₀ W').grown hgk (by omega) (fun k e => by injection e with e; omega)
        have d0 := (hIk.cell (p := ⟨b2, off + k * 2, none⟩) hbb).trans c0
        have d1 := (hIk.cell (p := ⟨b2, off + k * 2 + 1, none⟩) hbb).trans c1'
        have hY4 : Boxed wr W.heap.size 114 (.func (.yield l) #[] #[]) := (hgk.block _ (by omega) (fun e => by injection e with e; omega)).trans hYb3
        have hY5 : Boxed (wr.alloc (.cells #[.string x.name, .int .i64 x.link] 85)) W.heap.size 114 (.func (.yield l) #[] #[]) := hY4.alloc _
        have c2 := hY5.cell
        have hmem : x.link ∈ lks b := List.mem_append_right _ (List.mem_map.2 ⟨x, List.mem_of_getElem? hx, rfl⟩)
        have hlen : ((ports b.nodes).map lnk ++ (b.inner.take k).map Wr.link).length < (lks b).length := by
          unfold lks
          rw [List.length_append, List.length_append, List.length_map, List.length_map, List.length_map, List.length_take, HL5.out]
          omega
        have hjn : J ((ports b.nodes).map lnk ++ (b.inner.take k).map Wr.link) (wr.alloc (.cells #[.string x.name, .int .i64 x.link] 85)) := HJ.out.alloc _ hjk
        obtain ⟨fn, tmps, assign, body, hy, hR⟩ := HY.out _ x.link _ hjn ⟨hmem, hlen⟩
        have HR := Lib.hid (round_any (n' := 8 - 1) hR)
        have HG := Lib.hid (hgk.trans (World.grownBy_alloc wr (.cells #[.string x.name, .int .i64 x.link] 85) (some p)))
        have HX := Lib.hid hx
        clear hR hjk hgk hmem hlen hjn hIk c0 c1' hx hY4 hY5
        gi_wp2
        refine HR.out.mono ?_
        rintro e W3 ⟨rfl, hJ4, hg4⟩
        have HJ4 := Lib.hid hJ4
        have HG4 := Lib.hid hg4
        clear hJ4 hg4
        gi_wp2
        go_roundw
        case rel => exact ⟨k + 1, by omega, by go_num, by
          rw [List.take_add_one, HX.out, List.map_append, ← List.append_assoc]
          exact HJ4.out, HG.out.trans HG4.out⟩
        case measure => simp [intOf]; omega
      · obtain rfl : k = n5 := by omega
        have hfull : b.inner.take k = b.inner := List.take_of_length_le (by rw [HL5.out]; omega)
        rw [hfull] at hjk
        have HJk := Lib.hid (show J (lks b) wr from hjk)
        have hKd : wr.heap[D]? = some (.deferred (some [])) := (hgk.block D hDl (fun e => by injection e with e; omega)).trans HK.out
        have HKd := Lib.hid hKd
        clear hjk hgk hKd
        gi_wp2
        refine ⟨by simp, .inl ⟨_, _, rfl, run_takeDeferred HKd.out, ?_⟩⟩
        refine ⟨_, results_none rfl _ _ _, ?_⟩
        exact ⟨⟨_, rfl⟩, HJ.out.putObj _ HJk.out (by omega) HKd.out rfl⟩
  case stop =>
    rintro D c pre W' _ _ h _
    exact h.elim
end Go.Proofs.Ytlhickjlcmiknaa.lop
