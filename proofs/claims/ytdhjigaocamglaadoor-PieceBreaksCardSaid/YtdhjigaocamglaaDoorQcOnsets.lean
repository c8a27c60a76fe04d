/- A list that a loop makes by append, one element a round, in memory of the call's own. -/
import Derived.Test.YtdhjigaocamglaaDoorQcCopy
import Derived.Test.YtdhjigaocamglaaDoorQcLeaf
import Derived.Test.YtdhjigaocamglaaDoorQcIterT
import Derived.RangeFuncBox
import Derived.Maps.AppendAt
namespace Go.Proofs.YtdhjigaocamglaaDoor
open Go.RowKit

/-- The slice (A, k, c) owns the cells xs in blocks laid since W1; what was there at W1 is as it was. -/
structure Own1 (W1 wr : World) (e : TypeId) (size : Nat) (A : Option Addr) (k c : Nat) (xs : List Value) : Prop where
  own : wr.ownsRow W1.heap.size e size (.slice A k c) k xs
  low : Below W1.heap.size W1 wr
theorem Own1.start {W1 wr : World} (h : Below W1.heap.size W1 wr) (e : TypeId) (size : Nat) : Own1 W1 wr e size none 0 0 [] := ⟨⟨by simp, .inl ⟨rfl, rfl⟩⟩, h⟩
theorem Own1.below {W1 wr w2 : World} {e : TypeId} {size : Nat} {A : Option Addr} {k c : Nat} {xs : List Value} (h : Own1 W1 wr e size A k c xs) (hb : Below wr.heap.size wr w2) : Own1 W1 w2 e size A k c xs := ⟨own_below h.own hb, bt h.low hb⟩
theorem blk_apart {w : World} {g : Nat} {t : TypeId} {cs : Array Value} {base : Nat} {e : TypeId} {size : Nat} {v : Value} {n : Nat} {xs : List Value} (h : Blk w g t cs) (ho : w.ownsRow base e size v n xs) (hne : t ≠ e) : some g ≠ v.ownBlock := by
  rcases ho.2 with ⟨rfl, _⟩ | ⟨g', cap, cur, rfl, _, hh, _⟩
  · intro hc; cases hc
  · intro hc
    have : g = g' := by simpa [Value.ownBlock] using hc
    subst this
    unfold Blk at h
    rw [hh] at h
    injection h with h
    injection h with _ he
    exact hne he.symm
theorem Own1.step {W1 wr w2 w3 : World} {e : TypeId} {size : Nat} {A : Option Addr} {k c : Nat} {xs news : List Value} {v' : Value} {O : Obj} {B : Nat} (h : Own1 W1 wr e size A k c xs) (hb : Below wr.heap.size wr w2) (hB : B = W1.heap.size)
    (hown : w3.ownsRow B e size v' (k + 1) (xs ++ news)) (hg : (w2.alloc O).grownBy w3 (Value.slice A k c).ownBlock) :
    ∃ A' c', v' = .slice A' (k + 1) c' ∧ Own1 W1 w3 e size A' (k + 1) c' (xs ++ news) ∧ (∀ g t cs, t ≠ e → Blk wr g t cs → Blk w3 g t cs) := by
  subst hB
  obtain ⟨A', c', rfl⟩ := own_slice hown
  have h2 := h.below hb
  refine ⟨A', c', rfl, ⟨hown, ?_⟩, ?_⟩
  · refine Below.grown (h2.low.alloc h2.low.size O) hg (h2.low.alloc h2.low.size O).size (fun g hh => ?_)
    exact (h.own.lt g hh).1
  · intro g t cs hne hB
    exact ((hB.below hb).below (ba _ _)).grown hg (blk_apart hB h.own hne)
theorem Own1.sl {W1 wr : World} {e : TypeId} {size : Nat} {A : Option Addr} {k c : Nat} {xs : List Value} (h : Own1 W1 wr e size A k c xs) : Sl wr wr.heap.size size A k c xs := Sl_own h.own

def plC (L : List (Int × Int)) : List Value := L.flatMap fun x => [.int .i64 x.1, .int .i64 x.2]
theorem plC_snoc (L : List (Int × Int)) (x : Int × Int) : plC (L ++ [x]) = plC L ++ [.int .i64 x.1, .int .i64 x.2] := by simp [plC]
theorem plC_len (L : List (Int × Int)) : (plC L).length = L.length * 2 := by
  induction L with
  | nil => rfl
  | cons c r ih => simp [plC] at ih ⊢; omega
end Go.Proofs.YtdhjigaocamglaaDoor

/- Piece: Onsets, for any valid piece whose events lie in memory. -/
namespace Go.Proofs.YtdhjigaocamglaaDoor
open Go Go.RowKit

attribute [local go_sem] Oper.semAt_some

theorem ownsRow_heap {W W' : World} {base : Nat} {e : TypeId} {size : Nat} {v : Value} {k : Nat} {xs : List Value} (h : W.ownsRow base e size v k xs) (hs : ∀ g, v.ownBlock = some g → W'.heap[g]? = W.heap[g]?) : W'.ownsRow base e size v k xs := by
  refine ⟨h.1, ?_⟩
  rcases h.2 with ⟨h0, h1⟩ | ⟨g, cap, cur, rfl, h2, h3, h4⟩
  · exact .inl ⟨h0, h1⟩
  · exact .inr ⟨g, cap, cur, rfl, h2, (hs g rfl).trans h3, h4⟩
theorem own_ne {W : World} {base : Nat} {e T : TypeId} {size : Nat} {v : Value} {k j : Nat} {xs : List Value} {cs : Array Value} {f : Nat × Nat} (h : W.ownsRow base e size v k xs) (hj : W.heap[j]? = some (.cells cs T f)) (hne : T ≠ e) : v.ownBlock ≠ some j := by
  rcases h.2 with ⟨rfl, _⟩ | ⟨g, cap, cur, rfl, _, h3, _⟩
  · intro e
    cases e
  · intro e
    obtain rfl : g = j := by simpa [Value.ownBlock] using e
    rw [hj] at h3
    injection h3 with h3
    injection h3 with _ h3
    exact hne h3
theorem set_other (W : World) (b o k : Nat) (u : Value) (hk : k ≠ b) : (W.setCell ⟨b, o, none⟩ u).heap[k]? = W.heap[k]? := by
  simp only [World.setCell, Array.getElem?_modify]
  rw [if_neg (fun e => hk e.symm)]
theorem kept_other {W w1 : World} {tmp : Obj} {ob base : Nat} {e T : TypeId} {size k j : Nat} {v v' : Value} {xs : List Value} {cs : Array Value} {f : Nat × Nat} (hrow : W.ownsRow base e size v k xs) (hgrow : (W.alloc tmp).grownBy w1 v.ownBlock) (hj : j ≠ ob)
    (hT : W.heap[j]? = some (.cells cs T f)) (hne : T ≠ e) : (w1.setCell ⟨ob, 0, none⟩ v').heap[j]? = W.heap[j]? := by
  have hlt : j < W.heap.size := (Array.getElem?_eq_some_iff.1 hT).1
  rw [set_other _ _ _ _ _ hj, hgrow.block j (by simp; omega) (fun e => own_ne hrow hT hne e.symm)]
  exact (ba W tmp).block j hlt

/-- What the rounds keep: the list so far, in memory of the call's own. -/
def OnI (w : World) (n₀ ob Bp sb : Nat) (pre : List Tm) (W : World) : Prop :=
  (∃ v, Boxed W ob 23 v ∧ W.ownsRow n₀ 3 1 v (pre.length + 1) (.int .i64 0 :: pre.map fun x => .int .i64 x.to) ∧ v.ownBlock ≠ some sb) ∧ (∃ cs f, W.heap[Bp]? = some (.cells cs 28 f)) ∧ Below w.heap.size w W
theorem onI_bx {w : World} {n₀ ob Bp sb : Nat} (h1 : ob ≠ sb) (h2 : Bp ≠ sb) (h3 : w.heap.size ≤ sb) : Bx sb (OnI w n₀ ob Bp sb) := by
  constructor
  · rintro s W W' ⟨⟨v, hv, hr, hn⟩, ⟨cs, f, hT⟩, hb⟩ hW
    refine ⟨⟨v, (hW.block ob hv.lt).trans hv, own_below hr hW, hn⟩, ⟨cs, f, (hW.block Bp (Array.getElem?_eq_some_iff.1 hT).1).trans hT⟩, hb.trans (hW.mono hb.size)⟩
  · rintro s W ⟨b, o, sp⟩ u ⟨⟨v, hv, hr, hn⟩, ⟨cs, f, hT⟩, hb⟩ rfl
    have hs : ∀ k, k ≠ b → (W.setCell ⟨b, o, sp⟩ u).heap[k]? = W.heap[k]? := fun k hk => by
      simp only [World.setCell, Array.getElem?_modify]
      rw [if_neg (fun e => hk e.symm)]
    refine ⟨⟨v, (hs ob h1).trans hv, ownsRow_heap hr (fun g hg => hs g (fun e => hn (e ▸ hg))), hn⟩, ⟨cs, f, (hs Bp h2).trans hT⟩, hb.setCell (p := ⟨b, o, sp⟩) h3 _⟩
theorem onI_put {w : World} {n₀ ob Bp sb : Nat} (s : List Tm) (W : World) (l : Nat) (o o' : Obj) (h : OnI w n₀ ob Bp sb s W) (hl : W.heap[l]? = some o) (ho : o.isCells = false) (hw : w.heap.size ≤ l) : OnI w n₀ ob Bp sb s (W.putObj l o') := by
  obtain ⟨⟨v, hv, hr, hn⟩, ⟨cs, f, hT⟩, hb⟩ := h
  have hne : ∀ (k : Nat) (c : Array Value) (T : TypeId) (f : Nat × Nat), W.heap[k]? = some (.cells c T f) → k ≠ l := fun k c T f hk e => by
    rw [e, hl] at hk
    injection hk with hk
    rw [hk] at ho
    cases ho
  refine ⟨⟨v, (World.putObj_heap_other (hne _ _ _ _ hv)).trans hv, ownsRow_putObj hr _ hl ho, hn⟩, ⟨cs, f, (World.putObj_heap_other (hne _ _ _ _ hT)).trans hT⟩, ?_⟩
  exact hb.grown (grownBy_putObj' W l o') hb.size (fun k e => by cases e; exact hw)

set_option maxHeartbeats 1600000 in
theorem withTimes_any (A : Option Addr) (n c : Nat) (A' : Option Addr) (m c' : Nat) (A2 : Option Addr) (q cq : Nat) (w : World) : Calls Tryd.prog 45 #[.agg #[.slice A n c, .slice A' m c', .slice A2 q cq]] w fun e w' => e = .returned (.func (.func 68) #[] #[.pointer (some ⟨w.heap.size, 0, none⟩)]) ∧ w.alloc (.cells #[.slice A n c, .slice A' m c', .slice A2 q cq] 28) = w' := by
  have hmf : ∀ (fn : Fn) (first cap : Array Value) (w : World), (Instr.makeFunc fn first cap).run Tryd.prog w = .ok (.func fn first cap) w := fun _ _ _ _ => rfl
  go_enter Tryd.func45, Tryd.ntmps45
  go_wp2_with (fail)
  go_ret
  exact ⟨rfl, rfl⟩

theorem ownsRow_base {W : World} {base b0 : Nat} {e : TypeId} {size : Nat} {v : Value} {k : Nat} {xs : List Value} (h : W.ownsRow base e size v k xs) (hb : b0 ≤ base) : W.ownsRow b0 e size v k xs := by
  refine ⟨h.1, ?_⟩
  rcases h.2 with ⟨h0, h1⟩ | ⟨g, cap, cur, h1, h2, h3⟩
  · exact .inl ⟨h0, h1⟩
  · exact .inr ⟨g, cap, cur, h1, Nat.le_trans hb h2, h3⟩
theorem cell_one_pc (w1 : World) (u u2 : Value) (A : Option Addr) (n c : Nat) (A' : Option Addr) (m c' eb off nE cE : Nat) : (((w1.alloc (.cells #[u] 3)).alloc (.cells #[u2] 23)).alloc (.cells #[.slice A n c, .slice A' m c', .slice (some ⟨eb, off, none⟩) nE cE] 28)).cell? ⟨w1.heap.size + 1 + 1, 2, none⟩ = some (.slice (some ⟨eb, off, none⟩) nE cE) := by
  have := (keepb (Below.refl (((w1.alloc (.cells #[u] 3)).alloc (.cells #[u2] 23)).alloc (.cells #[.slice A n c, .slice A' m c', .slice (some ⟨eb, off, none⟩) nE cE] 28)).heap.size _) 2).1
  simpa using this

set_option maxRecDepth 100000 in
set_option maxHeartbeats 1000000 in
theorem onsets_ok (A : Option Addr) (n c : Nat) (A' : Option Addr) (m c' : Nat) (eb off nE cE : Nat) (E : List EvT) (hE : nE = E.length) (hlim : nE ≤ 1000000) (w : World) (heb : eb < w.heap.size) (hev : ∀ k x, E[k]? = some x → EvAt w eb off k x)
    (HCK : Hid (∀ o, Calls Tryd.prog 35 #[.agg #[.slice A n c, .slice A' m c', .slice (some ⟨eb, off, none⟩) nE cE]] (w.alloc o) fun e w' => e = .returned (.int .i64 0) ∧ Below (w.alloc o).heap.size (w.alloc o) w')) :
    Calls Tryd.prog 25 #[.agg #[.slice A n c, .slice A' m c', .slice (some ⟨eb, off, none⟩) nE cE]] w fun e w' => ∃ v, e = .returned (.tuple #[v, .int .i64 0]) ∧ w'.ownsRow w.heap.size 3 1 v (nE + 1) (.int .i64 0 :: (tmL E 0 0 false false 0).map fun x => .int .i64 x.to) ∧ Below w.heap.size w w' := by
  have HE := Lib.hid hE
  clear hE
  refine (callsIn_wide (n := 3)).1 ?_
  refine callsIn_of_wp_marks Tryd.func25 rfl trivial ?_ rfl
  simp only [Tryd.ntmps25, List.size_toArray, List.length_cons, List.length_nil, Nat.reduceAdd, Nat.reduceSub, Array.replicate_succ, Array.replicate_zero, List.push_toArray, List.append_toArray, List.nil_append, List.cons_append]
  gi_wp2_with (first | (refine ⟨trivial, ?_⟩; gi_at_call 35; refine (callsIn_wide.2 (HCK.out _)).mono ?_; rintro e w1 ⟨rfl, hb1⟩; have hb2 := bt hb1 (bt (ba w1 (.cells #[.int .i64 0] 3)) (ba _ (.cells #[.slice (some ⟨w1.heap.size, 0, none⟩) 1 1] 23))); have k0 := (keepb hb2 0).1; have k1 := (keepb hb2 1).1; have k2 := (keepb hb2 2).1; simp at k0 k1 k2) | (refine ⟨trivial, ?_⟩; gi_at_call 45; refine (callsIn_wide.2 (withTimes_any _ _ _ _ _ _ _ _ _ _)).mono ?_; rintro e w2 ⟨rfl, rfl⟩))
  have hc := cell_one_pc w1 (.int .i64 0) (.slice (some ⟨w1.heap.size, 0, none⟩) 1 1) A n c A' m c' eb off nE cE
  have bB : (((w1.alloc (.cells #[.int .i64 0] 3)).alloc (.cells #[.slice (some ⟨w1.heap.size, 0, none⟩) 1 1] 23)).alloc (.cells #[.slice A n c, .slice A' m c', .slice (some ⟨eb, off, none⟩) nE cE] 28)).heap[w1.heap.size + 1 + 1]? = some (.cells #[.slice A n c, .slice A' m c', .slice (some ⟨eb, off, none⟩) nE cE] 28 (0, 0)) := by
    have := World.alloc_heap_new ((w1.alloc (.cells #[.int .i64 0] 3)).alloc (.cells #[.slice (some ⟨w1.heap.size, 0, none⟩) 1 1] 23)) (.cells #[.slice A n c, .slice A' m c', .slice (some ⟨eb, off, none⟩) nE cE] 28)
    rwa [World.size_alloc, World.size_alloc] at this
  have bO := (Boxed.new (w1.alloc (.cells #[.int .i64 0] 3)) 23 (.slice (some ⟨w1.heap.size, 0, none⟩) 1 1)).alloc (.cells #[.slice A n c, .slice A' m c', .slice (some ⟨eb, off, none⟩) nE cE] 28)
  rw [World.size_alloc] at bO
  have own0 := own_below (World.ownsRow_lit (base := w1.heap.size) (e := 3) (size := 1) w1 #[.int .i64 0] 1 (Nat.le_refl _) (by decide) rfl) (bt (ba _ (.cells #[.slice (some ⟨w1.heap.size, 0, none⟩) 1 1] 23)) (ba _ (.cells #[.slice A n c, .slice A' m c', .slice (some ⟨eb, off, none⟩) nE cE] 28)))
  have low5 := bx (bt hb2 (ba _ (.cells #[.slice A n c, .slice A' m c', .slice (some ⟨eb, off, none⟩) nE cE] 28)))
  have hz1 : w.heap.size < w1.heap.size := by
    have := hb1.size
    simp at this
    omega
  have hz5 : (((w1.alloc (.cells #[.int .i64 0] 3)).alloc (.cells #[.slice (some ⟨w1.heap.size, 0, none⟩) 1 1] 23)).alloc (.cells #[.slice A n c, .slice A' m c', .slice (some ⟨eb, off, none⟩) nE cE] 28)).heap.size = w1.heap.size + 3 := by simp
  obtain ⟨W5, hW5⟩ : ∃ W5, ((w1.alloc (.cells #[.int .i64 0] 3)).alloc (.cells #[.slice (some ⟨w1.heap.size, 0, none⟩) 1 1] 23)).alloc (.cells #[.slice A n c, .slice A' m c', .slice (some ⟨eb, off, none⟩) nE cE] 28) = W5 := ⟨_, rfl⟩
  rw [hW5] at hc bB bO own0 low5 hz5 ⊢
  clear hW5 k0 k1 k2
  obtain ⟨i0, hi, hi0, hi1, hi2⟩ := info_parts (show (Tryd.prog.info? 3).map (fun i => (i.zero, i.size, i.bytes)) = some (some (.int .i64 0), 1, 8) by kernel_rfl)
  have hlenE : (tmL E 0 0 false false 0).length = nE := (tmL_len _ _ _ _ _ _).trans HE.out.symm
  refine rfBox (F := Fence.wide) (n := 3) rfl (by omega) (gf := 68) (lb := #[.pointer (some ⟨w1.heap.size + 1 + 1, 0, none⟩)]) rfl trivial (enters_of Tryd.func68 (by kernel_rfl) rfl)
    (encs := fun x : Tm => #[tmV x]) (keep := fun k => k < w1.heap.size ∨ k = w1.heap.size + 1 + 1 ∨ k = W5.heap.size + 2) (T := 48) (tmL E 0 0 false false 0)
    (times_iter _ (by omega) (w1.heap.size + 1 + 1) eb off nE cE E HE.out hlim _ W5 (by omega) (by omega) (.inr (.inl rfl)) (.inl (by omega)) (W5.heap.size + 2) (by omega) (.inr (.inr rfl)) hc (fun k x hk => EvAt.same (low5.block eb heb) (hev k x hk)))
    (by omega) (fun _ => rfl) (OnI w w1.heap.size (w1.heap.size + 1) (w1.heap.size + 1 + 1) (W5.heap.size + 2)) (onI_bx (by omega) (by omega) (by omega)) (fun s W l o o' h hl ho hw => onI_put s W l o o' h hl ho (by omega))
    ⟨⟨_, bO, own0, by simp [Value.ownBlock]; omega⟩, ⟨_, _, bB⟩, low5⟩
    (fun x a' W => ∃ bq, a' = { tmps := #[.agg #[.slice A n c, .slice A' m c', .slice (some ⟨eb, off, none⟩) nE cE], .pointer (some ⟨w.heap.size, 0, none⟩), .slice none 0 0, .int .i64 0, .int .i64 0, .pointer (some ⟨w1.heap.size + 1, 0, none⟩), .pointer (some ⟨bq, 0, none⟩), .agg #[.slice A n c, .slice A' m c', .slice (some ⟨eb, off, none⟩) nE cE], .int .i64 0, .int .i64 0, .bool false, undef, .slice (some ⟨w1.heap.size, 0, none⟩) 1 1, .agg #[.slice A n c, .slice A' m c', .slice (some ⟨eb, off, none⟩) nE cE], .func (.func 68) #[] #[.pointer (some ⟨w1.heap.size + 1 + 1, 0, none⟩)], tmV x, undef, undef, undef, undef, undef, undef], defers := [] } ∧ W.cell? ⟨bq, 11, none⟩ = some (.int .i64 x.to))
    (fun x a' W l o o' ⟨bq, h, hq⟩ hl ho => ⟨bq, h, cell_kept hq (grownBy_putObj' W l o') (fun r e => by cases e; exact ⟨o, hl, ho⟩)⟩) ?assign ?body ?done
  case assign =>
    intro l x W K hK
    gi_wp2
    exact hK _ _ (ba W _) ⟨W.heap.size, rfl, by simp⟩
  case body =>
    rintro l pre x a' W ⟨⟨v, hv, hrow, hns⟩, ⟨cs, f, hB⟩, hlow⟩ ⟨bq, rfl, hq⟩ ⟨post, hpost⟩ ⟨cs2, f2, hsb⟩
    have hlen : pre.length < (tmL E 0 0 false false 0).length := by rw [hpost]; simp
    have hcv := hv.cell
    have hlt := hv.lt
    have hpl : pre.length < 1000000 := by omega
    have hml : pre.length + 1 + 1 ≤ maxLen := Nat.le_trans (show pre.length + 1 + 1 ≤ 1000002 by omega) (by decide)
    gi_wp2_with (gi_at_builtin; go_loud (refine wpListIn_append_own _ rfl _ _ 23 rfl w1.heap.size 3 i0 (.int .i64 0) 1 8 Tryd.underlying23 hi hi0 hi1 hi2 rfl (by decide) _ _ _ rfl (hrow.alloc _) ⟨W.heap.size, 0, none⟩ 1 1 [.int .i64 x.to] rfl rfl (cell_one_new _ _ _) (by simp [Value.oneCell']) (by first | exact hml | omega) (by omega) (by simp; omega) ?_; intro v' w2 hown' hgrow _; obtain ⟨g', cap', rfl⟩ := ownsRow_succ hown'; obtain ⟨hv1, hv2, hr2, hk2, hb2⟩ := hv.appended (by decide) hrow (by omega) (by omega) hown' hgrow; have hc1 := hv1.cell; have hf1 := hv1.frozen))
    have eB := kept_other (ob := w1.heap.size + 1) (v' := .slice (some ⟨g', 0, none⟩) (pre.length + 1 + 1) cap') hrow hgrow (by omega) hB (by decide)
    have eS := kept_other (ob := w1.heap.size + 1) (v' := .slice (some ⟨g', 0, none⟩) (pre.length + 1 + 1) cap') hrow hgrow (by omega) hsb (by decide)
    have eS2 := eS.trans hsb
    rw [hz5] at eS2
    refine ⟨hk2, ?_, ⟨_, hv2, by simpa using hr2, own_ne hr2 eS2 (by decide)⟩, ⟨_, _, eB.trans hB⟩, hlow.trans (hb2.mono (by omega))⟩
    rintro k (h | rfl | rfl) hlt
    · exact hb2.block k h
    · exact eB
    · rw [hz5] at eS
      exact eS
  case done =>
    rintro D W hD ⟨⟨v, hv, hrow, hns⟩, _, hlow⟩ hK
    have hcv := hv.cell
    gi_wp2
    refine ⟨by simp, .inl ⟨_, _, rfl, run_takeDeferred hK, ?_⟩⟩
    rw [hlenE] at hrow
    refine ⟨_, results_tmp2 rfl _ _ _, v, rfl, ?_, ?_⟩
    · exact ownsRow_base (ownsRow_putObj hrow _ hK rfl) (by omega)
    · exact hlow.grown (grownBy_putObj' W D _) hlow.size (fun k e => by cases e; omega)

end Go.Proofs.YtdhjigaocamglaaDoor
