/- SplitString of both programs; impl's goes round its own iterator partsOf. -/
import Derived.Test.YtlddkechmkjdeaaSplit
import Derived.RangeFuncBox
import Derived.RangeFuncLeaves
import Derived.Shelf.Abstract
import Derived.OwnWalkIn
import Derived.TacticsInMore
import Derived.LoopNIn
import Derived.LoopIn
import Derived.Maps.AppendAt
namespace Go.Proofs.Ytlddkechmkjdeaa.spli
open kit hs split
open Go.RowKit

attribute [local go_sem] Oper.semAt_some

theorem done_mono (s : ByteArray) (c : Int) {k n : Nat} (h : k ≤ n) : (done s c k).length ≤ (done s c n).length := by
  induction n with
  | zero => obtain rfl : k = 0 := by omega
            exact Nat.le_refl _
  | succ n ih =>
    by_cases e : k = n + 1
    · subst e; exact Nat.le_refl _
    · have := ih (by omega)
      have e2 : (done s c n).length ≤ (done s c (n + 1)).length := by
        show _ ≤ (if _ then _ else _ : List ByteArray).length
        split
        · rw [List.length_append]; omega
        · exact Nat.le_refl _
      omega
theorem done_lt (s : ByteArray) (c : Int) {k : Nat} (h : k ≤ s.size) : (done s c k).length < (parts s c).length := by
  have := done_mono s c h
  unfold parts
  rw [List.length_append, List.length_singleton]
  omega

/-- two blocks lie as they lay, and none has gone -/
def Two (B1 B2 : Nat) (a b : World) : Prop := b.heap[B1]? = a.heap[B1]? ∧ b.heap[B2]? = a.heap[B2]? ∧ a.heap.size ≤ b.heap.size
theorem Two.refl (B1 B2 : Nat) (a : World) : Two B1 B2 a a := ⟨rfl, rfl, Nat.le_refl _⟩
theorem Two.trans {B1 B2 : Nat} {a b c : World} (h : Two B1 B2 a b) (k : Two B1 B2 b c) : Two B1 B2 a c := ⟨k.1.trans h.1, k.2.1.trans h.2.1, Nat.le_trans h.2.2 k.2.2⟩
theorem Two.drew {B1 B2 : Nat} {a b : World} (h : Two B1 B2 a b) : Two B1 B2 a b.drew := h
theorem Two.cell1 {B1 B2 : Nat} {a b : World} (h : Two B1 B2 a b) (o : Nat) : b.cell? ⟨B1, o, none⟩ = a.cell? ⟨B1, o, none⟩ := World.cell?_of_block (w := a) h.1
theorem Two.cell2 {B1 B2 : Nat} {a b : World} (h : Two B1 B2 a b) (o : Nat) : b.cell? ⟨B2, o, none⟩ = a.cell? ⟨B2, o, none⟩ := World.cell?_of_block (w := a) h.2.1
theorem grown_drew (w : World) : w.grownBy w.drew none := ⟨rfl, rfl, rfl, Nat.le_refl _, fun _ _ _ => rfl⟩

set_option maxRecDepth 100000 in
set_option maxHeartbeats 4000000 in
theorem iter_in (F : Fence) (n : Nat) (h35 : F.fn 35) (hro : F.round = none) (hn : 1 ≤ n) (l B1 B2 : Nat) (s : ByteArray) (c : Int) (hs : s.size ≤ 1048576) (J Jx : List ByteArray → World → Prop) (W : World)
    (hJ : AbidesFrom W.heap.size J)
    (hY : ∀ pre x W, J pre W → pre.length < (parts s c).length → YieldAt F (n - 1) Try.prog l #[.string x] W fun e W' =>
      (e = .returned (.bool true) ∧ J (pre ++ [x]) W' ∧ Two B1 B2 W W') ∨ (e = .returned (.bool false) ∧ Jx (pre ++ [x]) W'))
    (hc1 : W.cell? ⟨B1, 0, none⟩ = some (.string s)) (hc2 : W.cell? ⟨B2, 0, none⟩ = some (.int .u8 c)) (h0 : J [] W) :
    CallsIn F n Try.prog 35 #[.func (.yield l) #[] #[], .pointer (some ⟨B1, 0, none⟩), .pointer (some ⟨B2, 0, none⟩)] W fun e W' => (∃ v, e = .returned v) ∧
      ((∃ ys, ys = parts s c ∧ J ys W') ∨ (∃ pre, True ∧ Jx pre W')) := by
  refine callsIn_of_wp Try.func35 rfl h35 ?_ hro
  simp only [Try.ntmps35, List.size_toArray, List.length_cons, List.length_nil, Nat.reduceAdd, Nat.reduceSub, Array.replicate_succ, Array.replicate_zero, List.push_toArray, List.append_toArray, List.nil_append, List.cons_append]
  gi_wp2
  gi_loopw [4, 5, 8] (fun f _ i wr => ∃ k : Nat, k ≤ s.size ∧ i = .int .i64 k ∧ f = .int .i64 (frm s c k) ∧ J (done s c k) wr ∧ Two B1 B2 W wr)
    (fun _ _ i _ => s.size - (intOf i).toNat)
  case atStart => exact ⟨0, Nat.zero_le _, rfl, rfl, h0, Two.refl _ _ _⟩
  case round =>
    obtain ⟨k, hk, rfl, rfl, hJs, hb⟩ := hrel
    have hsz := hb.2.2
    have hd1 : wr.cell? ⟨B1, 0, none⟩ = some (.string s) := (hb.cell1 0).trans hc1
    have hd2 : wr.cell? ⟨B2, 0, none⟩ = some (.int .u8 c) := (hb.cell2 0).trans hc2
    have hfk := frm_le s c k
    by_cases hlt : k < s.size
    · cases hq : ((s[k].toNat : Int) == c) with
      | true =>
        have hq2 : ((s[k].toNat : Int) != c) = false := by rw [bne, hq]; rfl
        have HQ := Lib.hid hq
        obtain ⟨f, hf⟩ : ∃ f, frm s c k = f := ⟨_, rfl⟩
        rw [hf] at hfk ⊢
        have HF := Lib.hid hf
        clear hf
        have hJd : J (done s c k) wr.drew := hJ _ _ _ none hJs (grown_drew wr) (fun r e => by cases e)
        have hbd : Two B1 B2 W wr.drew := hb.drew
        obtain ⟨fn, tmps, assign, body, hy, hR⟩ := hY (done s c k) (s.extract f k) wr.drew hJd (done_lt s c hk)
        have HR := Lib.hid hR
        have HB := Lib.hid hbd
        have HT := Lib.hid (hit hlt HQ.out)
        clear hR hJd hbd hJs hq hb
        gi_wp2
        gi_region
        all_goals
          gi_wp2
          refine HR.out.mono ?_
          rintro e W3 (⟨rfl, hJ3, hk3⟩ | ⟨rfl, hJx3⟩)
          · have hR3 := Lib.hid (And.intro hJ3 hk3)
            clear hJ3 hk3
            gi_wp2
            go_roundw
            case rel =>
              obtain ⟨hJ3, hk3⟩ := hR3.out
              refine ⟨k + 1, by omega, by go_num, ?_, ?_, HB.out.trans hk3⟩
              · rw [HT.out.1]; go_num
              · rw [HT.out.2, HF.out]; exact hJ3
            case measure => simp [intOf]; omega
          · gi_wp2
            refine bodyPost_ret (results_none rfl _ _ _) rfl ?_
            exact ⟨⟨_, rfl⟩, .inr ⟨_, trivial, hJx3⟩⟩
      | false =>
        have hq2 : ((s[k].toNat : Int) != c) = true := by rw [bne, hq]; rfl
        have hJd : J (done s c k) wr.drew := hJ _ _ _ none hJs (grown_drew wr) (fun r e => by cases e)
        have HJ := Lib.hid hJd
        have HT := Lib.hid (miss hlt hq)
        have HB := Lib.hid hb
        clear hJd hJs hq hb
        gi_wp2
        gi_region
        all_goals
          gi_wp2
          go_roundw
          case rel => exact ⟨k + 1, by omega, by go_num, by rw [HT.out.1], by rw [HT.out.2]; exact HJ.out, HB.out.drew⟩
          case measure => simp [intOf]; omega
    · obtain rfl : k = s.size := by omega
      obtain ⟨f, hf⟩ : ∃ f, frm s c s.size = f := ⟨_, rfl⟩
      rw [hf] at hfk ⊢
      have hlast : parts s c = done s c s.size ++ [s.extract f s.size] := by rw [← hf]; rfl
      obtain ⟨fn, tmps, assign, body, hy, hR⟩ := hY (done s c s.size) (s.extract f s.size) wr hJs (done_lt s c hk)
      have HR := Lib.hid hR
      have HL := Lib.hid hlast
      clear hR hJs hf hlast
      gi_wp2
      refine HR.out.mono ?_
      rintro e W3 (⟨rfl, hJ3, hk3⟩ | ⟨rfl, hJx3⟩)
      · have hR3 := Lib.hid hJ3
        clear hJ3
        gi_wp2
        go_end0
        exact ⟨⟨_, rfl⟩, .inl ⟨_, rfl, by rw [HL.out]; exact hR3.out⟩⟩
      · gi_wp2
        go_end0
        exact ⟨⟨_, rfl⟩, .inr ⟨_, trivial, hJx3⟩⟩
end Go.Proofs.Ytlddkechmkjdeaa.spli
