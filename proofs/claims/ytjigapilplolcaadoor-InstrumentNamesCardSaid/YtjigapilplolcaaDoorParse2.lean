/- What the program's Parse returns for any text. -/
import Derived.Test.YtjigapilplolcaaDoorParse
namespace Go.Proofs.YtjigapilplolcaaDoor
open Go.RowKit

def crOf (x : List UInt8) : Cr := ⟨crsP x, crsF x, crsO x⟩
def crsFE : List (List UInt8) → Int
  | [] => 0
  | x :: r => if crsE x = 0 then crsFE r else crsE x
def stpFE : List (List UInt8) → Int
  | [] => 0
  | x :: r => if numB x then stpFE r else 4
def preW (l : List UInt8) : List (List UInt8) := (wrd l).take (preOf (wrd l))
def postW (l : List UInt8) : List (List UInt8) := (wrd l).drop (preOf (wrd l) + 1)
def rawC (l : List UInt8) : List Cr := (preW l).map crOf
def rawS (l : List UInt8) : List Int := (postW l).map numV
/-- The error of a text; the instrument that it says. -/
def prsE (l : List UInt8) : Int :=
  if (wrd l).length ≤ preOf (wrd l) then 4 else if crsFE (preW l) ≠ 0 then crsFE (preW l) else if stpFE (postW l) ≠ 0 then 4 else chk (rawC l) (rawS l)
def prsC (l : List UInt8) : List Cr := if prsE l = 0 then rawC l else []
def prsS (l : List UInt8) : List Int := if prsE l = 0 then rawS l else []

/-- A call returns the instrument C, S and the error er; its slices lie in new blocks. -/
def InPost (C : List Cr) (S : List Int) (er : Int) (w : World) (e : Ending) (w' : World) : Prop :=
  ∃ (A : Option Addr) (n c : Nat) (A' : Option Addr) (m c' : Nat), e = .returned (.tuple #[.agg #[.slice A n c, .slice A' m c'], .int .i64 er]) ∧ n = C.length ∧ m = S.length ∧
    Sl w' w'.heap.size 3 A n c (crC C) ∧ Sl w' w'.heap.size 1 A' m c' (intC S) ∧ (∀ a, A = some a → w.heap.size ≤ a.block) ∧ (∀ a, A' = some a → w.heap.size ≤ a.block) ∧ Below w.heap.size w w'
abbrev ParsePost (l : List UInt8) (w : World) (e : Ending) (w' : World) : Prop := InPost (prsC l) (prsS l) (prsE l) w e w'

theorem Sl.none_ (w : World) (B size : Nat) : Sl w B size none 0 0 [] := ⟨Nat.le_refl _, by simp, fun h => absurd h (by omega)⟩
theorem Sl.set_ {w : World} {B size n c : Nat} {A : Option Addr} {xs : List Value} (h : Sl w B size A n c xs) {p : Addr} (hp : ∀ a, A = some a → a.block ≠ p.block) (u : Value) : Sl (w.setCell p u) B size A n c xs :=
  ⟨h.1, h.2.1, fun hn => by
    obtain ⟨b, off, e, hb, hc⟩ := h.2.2 hn
    have := hp _ e
    exact ⟨b, off, e, hb, fun j x hx => (World.cell?_setCell_other w p _ u (fun e => this (by rw [e]))).trans (hc j x hx)⟩⟩
theorem inPost_err {er : Int} {w w' : World} (hb : Below w.heap.size w w') : InPost [] [] er w (.returned (.tuple #[.agg #[.slice none 0 0, .slice none 0 0], .int .i64 er])) w' :=
  ⟨none, 0, 0, none, 0, 0, rfl, rfl, rfl, Sl.none_ _ _ _, Sl.none_ _ _ _, (fun _ h => by cases h), (fun _ h => by cases h), hb⟩

abbrev zIn : Obj := .cells #[.slice none 0 0, .slice none 0 0] 46
def wObj (l : List UInt8) : Obj := .cells (strC (wrd l)).toArray 9

theorem parsePost_err {l : List UInt8} {w w' : World} (h : prsE l ≠ 0) (hb : Below w.heap.size w w') : ParsePost l w (.returned (.tuple #[.agg #[.slice none 0 0, .slice none 0 0], .int .i64 (prsE l)])) w' := by
  have := inPost_err (er := prsE l) hb
  unfold ParsePost
  rw [prsC, if_neg h, prsS, if_neg h]
  exact this
theorem own_fresh {w : World} {base : Nat} {e : TypeId} {size : Nat} {A : Option Addr} {n c : Nat} {xs : List Value} (h : w.ownsRow base e size (.slice A n c) n xs) (B : Nat) (hB : B ≤ base) : ∀ a, A = some a → B ≤ a.block := by
  rintro a rfl
  have := (h.lt a.block rfl).1
  omega

theorem own_below {w w2 : World} {base : Nat} {e : TypeId} {size : Nat} {v : Value} {n : Nat} {xs : List Value} (h : w.ownsRow base e size v n xs) (hb : Below w.heap.size w w2) : w2.ownsRow base e size v n xs := by
  refine ⟨h.1, ?_⟩
  rcases h.2 with h2 | ⟨g, cap, cur, h1, h2, h3, h4⟩
  · exact .inl h2
  · refine .inr ⟨g, cap, cur, h1, h2, (hb.block g ?_).trans h3, h4⟩
    rcases Nat.lt_or_ge g w.heap.size with hlt | hge
    · exact hlt
    · rw [Array.getElem?_eq_none hge] at h3; cases h3
theorem Sl_own {w : World} {base : Nat} {e : TypeId} {size : Nat} {A : Option Addr} {n c : Nat} {xs : List Value} (h : w.ownsRow base e size (.slice A n c) n xs) : Sl w w.heap.size size A n c xs := by
  rcases h.2 with ⟨hv, h0⟩ | ⟨g, cap, cur, hv, hbs, hh, hle, _, hsz, htk⟩
  · injection hv with h1 h2 h3
    exact ⟨by omega, h.1, fun hn => by omega⟩
  · injection hv with h1 h2 h3
    subst h1 h3
    refine ⟨hle, h.1, fun hn => ⟨g, 0, rfl, ?_, fun j u hu => ?_⟩⟩
    · rcases Nat.lt_or_ge g w.heap.size with hlt | hge
      · exact hlt
      · rw [Array.getElem?_eq_none hge] at hh; cases hh
    · have := h.cells (g := g) rfl j u hu
      rw [Nat.zero_add]
      unfold Addr.add at this
      split at this
      · rename_i hj; subst hj; exact this
      · simpa using this

/-- A block that is known whole. -/
def Blk (w : World) (g : Nat) (t : TypeId) (cs : Array Value) : Prop := w.heap[g]? = some (.cells cs t (0, 0))
theorem Blk.lt {w : World} {g : Nat} {t : TypeId} {cs : Array Value} (h : Blk w g t cs) : g < w.heap.size := by
  rcases Nat.lt_or_ge g w.heap.size with hlt | hge
  · exact hlt
  · unfold Blk at h; rw [Array.getElem?_eq_none hge] at h; cases h
theorem Blk.cell {w : World} {g : Nat} {t : TypeId} {cs : Array Value} (h : Blk w g t cs) (i : Nat) : w.cell? ⟨g, i, none⟩ = cs[i]? := cell_of_row w g i cs t (0, 0) h
theorem Blk.frozen {w : World} {g : Nat} {t : TypeId} {cs : Array Value} (h : Blk w g t cs) (i : Nat) : w.frozen? ⟨g, i, none⟩ = false := by
  unfold Blk at h
  simp [World.frozen?, h]
theorem Blk.below {w w' : World} {g : Nat} {t : TypeId} {cs : Array Value} (h : Blk w g t cs) (hb : Below w.heap.size w w') : Blk w' g t cs := (hb.block g h.lt).trans h
theorem Blk.grown {w w' : World} {g : Nat} {t : TypeId} {cs : Array Value} {row : Option Nat} (h : Blk w g t cs) (hb : w.grownBy w' row) (hg : some g ≠ row) : Blk w' g t cs := (hb.block g h.lt hg).trans h
theorem Blk.set_ {w : World} {g : Nat} {t : TypeId} {cs : Array Value} (h : Blk w g t cs) (i : Nat) (u : Value) : Blk (w.setCell ⟨g, i, none⟩ u) g t (cs.setIfInBounds i u) := by
  unfold Blk at h ⊢
  simp [World.setCell, Array.getElem?_modify, h]

theorem Tryd.info60 : (Tryd.prog.info? 60).map (fun i => (i.zero, i.size, i.bytes)) = some (some (.agg #[.int .i64 0, .int .i64 0, .bool false]), 3, 24) := by kernel_rfl
theorem Tryd.info3' : (Tryd.prog.info? 3).map (fun i => (i.zero, i.size, i.bytes)) = some (some (.int .i64 0), 1, 8) := by kernel_rfl

theorem wrd_len : ∀ l : List UInt8, (wrd l).length ≤ l.length + 1
  | [] => by simp [wrd]
  | c :: r => by
    have := wrd_len r
    unfold wrd
    split
    · simp; omega
    · split
      · simp
      · rename_i x xs hx; rw [hx] at this; simp at this ⊢; omega

theorem words_cell (l : List UInt8) (w : World) (j : Nat) : ((w.alloc zIn).alloc (.cells (strC (wrd l)).toArray 9)).cell? ⟨w.heap.size + 1, 0 + j, none⟩ = (strC (wrd l))[j]? := by
  simp
theorem mark_any (l : List UInt8) (w : World) (hN : (wrd l).length ≤ 9223372036854775807) :
    Calls Tryd.prog 84 #[.slice (some ⟨w.heap.size + 1, 0, none⟩) (wrd l).length (wrd l).length, .string ⟨#[58]⟩] ((w.alloc zIn).alloc (.cells (strC (wrd l)).toArray 9)) fun e w' => e = .returned (.int .i64 (if preOf (wrd l) < (wrd l).length then (preOf (wrd l) : Int) else -1)) ∧ (w.alloc zIn).alloc (.cells (strC (wrd l)).toArray 9) = w' :=
  index_any (wrd l) (w.heap.size + 1) (wrd l).length _ hN fun j _ hu => (words_cell l w j).trans hu

set_option maxHeartbeats 1600000 in
theorem parse_nomark (l : List UInt8) (w : World) (E : Env w) (hs : l.length < 4294967200) (h : (wrd l).length ≤ preOf (wrd l)) :
    Calls Tryd.prog 75 #[.string ⟨l.toArray⟩] w (ParsePost l w) := by
  have he : prsE l = 4 := by rw [prsE, if_pos h]
  have H := Lib.hid he
  have hN : (wrd l).length ≤ 9223372036854775807 := by have := wrd_len l; omega
  have HI := Lib.hid (mark_any l w hN)
  have HV : Hid ((if preOf (wrd l) < (wrd l).length then (preOf (wrd l) : Int) else -1) = -1) := if_neg (by omega)
  have HS := Lib.hid hs
  have E1 := E.alloc zIn
  clear he h hs
  go_enter Tryd.func75, Tryd.ntmps75
  go_wp2_with (first | (go_at_call 83; refine (split_any l _ E1 (by have := HS.out; omega)).mono ?_; rintro e w1 ⟨rfl, rfl⟩) | (go_at_call 84; refine HI.out.mono ?_; rintro e w1 ⟨rfl, rfl⟩; rw [HV.out]))
  refine bodyPost_ret (v := .tuple #[.agg #[.slice none 0 0, .slice none 0 0], .int .i64 4]) ?_ rfl ?_
  · simp [results, Tryd.results75, go_sem]
    done
  · rw [← H.out]
    refine parsePost_err (by rw [H.out]; decide) ?_
    exact bal (ba _ _) _

end Go.Proofs.YtjigapilplolcaaDoor
