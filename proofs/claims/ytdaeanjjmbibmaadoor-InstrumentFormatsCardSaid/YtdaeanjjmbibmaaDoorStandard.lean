/- What the program's Standard returns for any name. -/
import Derived.Test.YtdaeanjjmbibmaaDoorParse3
namespace Go.Proofs.YtdaeanjjmbibmaaDoor
open Go.RowKit

theorem Tryd.stdIx0 (w : World) : (Instr.index 82 (.agg stdC) (.int .i64 ((0 : Nat) : Int))).run Tryd.prog w = .ok (.agg #[.string (stn 0), .string (stt 0)]) w := by kernel_rfl
theorem Tryd.stdIx1 (w : World) : (Instr.index 82 (.agg stdC) (.int .i64 ((1 : Nat) : Int))).run Tryd.prog w = .ok (.agg #[.string (stn 1), .string (stt 1)]) w := by kernel_rfl
theorem Tryd.stdIx2 (w : World) : (Instr.index 82 (.agg stdC) (.int .i64 ((2 : Nat) : Int))).run Tryd.prog w = .ok (.agg #[.string (stn 2), .string (stt 2)]) w := by kernel_rfl
theorem Tryd.stdIx3 (w : World) : (Instr.index 82 (.agg stdC) (.int .i64 ((3 : Nat) : Int))).run Tryd.prog w = .ok (.agg #[.string (stn 3), .string (stt 3)]) w := by kernel_rfl
theorem Tryd.stdIx4 (w : World) : (Instr.index 82 (.agg stdC) (.int .i64 ((4 : Nat) : Int))).run Tryd.prog w = .ok (.agg #[.string (stn 4), .string (stt 4)]) w := by kernel_rfl
theorem Tryd.stdIx5 (w : World) : (Instr.index 82 (.agg stdC) (.int .i64 ((5 : Nat) : Int))).run Tryd.prog w = .ok (.agg #[.string (stn 5), .string (stt 5)]) w := by kernel_rfl
theorem Tryd.stdIx6 (w : World) : (Instr.index 82 (.agg stdC) (.int .i64 ((6 : Nat) : Int))).run Tryd.prog w = .ok (.agg #[.string (stn 6), .string (stt 6)]) w := by kernel_rfl
theorem Tryd.stdIx7 (w : World) : (Instr.index 82 (.agg stdC) (.int .i64 ((7 : Nat) : Int))).run Tryd.prog w = .ok (.agg #[.string (stn 7), .string (stt 7)]) w := by kernel_rfl
theorem Tryd.stdIx8 (w : World) : (Instr.index 82 (.agg stdC) (.int .i64 ((8 : Nat) : Int))).run Tryd.prog w = .ok (.agg #[.string (stn 8), .string (stt 8)]) w := by kernel_rfl
theorem stdC_ix (k : Nat) (h : k < 9) (w : World) : (Instr.index 82 (.agg stdC) (.int .i64 k)).run Tryd.prog w = .ok (.agg #[.string (stn k), .string (stt k)]) w :=
  match k, h with
  | 0, _ => Tryd.stdIx0 w
  | 1, _ => Tryd.stdIx1 w
  | 2, _ => Tryd.stdIx2 w
  | 3, _ => Tryd.stdIx3 w
  | 4, _ => Tryd.stdIx4 w
  | 5, _ => Tryd.stdIx5 w
  | 6, _ => Tryd.stdIx6 w
  | 7, _ => Tryd.stdIx7 w
  | 8, _ => Tryd.stdIx8 w
theorem stdC_load : (Tryd.prog.info? 82).map (·.size) = some stdC.size := by kernel_rfl

theorem stt_len (k : Nat) (h : k < 9) : (sttB k).length < 4294967200 := by
  have : ∀ k : Fin 9, (sttB k.val).length < 200 := by decide
  have h2 : (sttB k).length < 200 := this ⟨k, h⟩
  omega
theorem stn_list (k : Nat) : (stn k).toList = stnB k := by simp [stn]

/-- Where a standard instrument of this name stands among the nine; 9: nowhere. -/
def stdAt (l : List UInt8) : Nat := if stnB 0 = l then 0 else if stnB 1 = l then 1 else if stnB 2 = l then 2 else if stnB 3 = l then 3 else if stnB 4 = l then 4 else if stnB 5 = l then 5 else if stnB 6 = l then 6 else if stnB 7 = l then 7 else if stnB 8 = l then 8 else 9
theorem stdAt_hit (l : List UInt8) (k : Nat) (h : k < 9) (hk : stnB k = l) (hn : ∀ j, j < k → stnB j ≠ l) : stdAt l = k := by
  unfold stdAt
  have : k = 0 ∨ k = 1 ∨ k = 2 ∨ k = 3 ∨ k = 4 ∨ k = 5 ∨ k = 6 ∨ k = 7 ∨ k = 8 := by omega
  rcases this with rfl | rfl | rfl | rfl | rfl | rfl | rfl | rfl | rfl <;> simp [hk, hn]
theorem stdAt_miss (l : List UInt8) (hn : ∀ j, j < 9 → stnB j ≠ l) : stdAt l = 9 := by
  unfold stdAt
  simp [hn]

def stdC' (l : List UInt8) : List Cr := if stdAt l = 9 then [] else prsC (sttB (stdAt l))
def stdS (l : List UInt8) : List Int := if stdAt l = 9 then [] else prsS (sttB (stdAt l))
def stdE (l : List UInt8) : Int := if stdAt l = 9 then 3 else prsE (sttB (stdAt l))

theorem inPost_stored {C : List Cr} {S : List Int} {er : Int} {w W w2 : World} {e : Ending} (hb : Below (w.alloc zIn).heap.size (w.alloc zIn) W) (h : InPost C S er W e w2) :
    ∃ (A : Option Addr) (n c : Nat) (A' : Option Addr) (m c' : Nat), e = .returned (.tuple #[.agg #[.slice A n c, .slice A' m c'], .int .i64 er]) ∧ Below (w.alloc zIn).heap.size (w.alloc zIn) w2 ∧
      InPost C S er w (.returned (.tuple #[.agg #[.slice A n c, .slice A' m c'], .int .i64 er])) ((w2.setCell ⟨w.heap.size, 0, none⟩ (.slice A n c)).setCell ⟨w.heap.size, 1, none⟩ (.slice A' m c')) := by
  obtain ⟨A, n, c, A', m, c', rfl, hn, hm, h1, h2, f1, f2, hb2⟩ := h
  have hz : w.heap.size < W.heap.size := by have := hb.size; simp at this; omega
  refine ⟨A, n, c, A', m, c', rfl, bt hb hb2, A, n, c, A', m, c', rfl, hn, hm, ?_, ?_, fun a ha => by have := f1 a ha; omega, fun a ha => by have := f2 a ha; omega, ?_⟩
  · have := (h1.set_ (p := ⟨w.heap.size, 0, none⟩) (fun a ha => by have := f1 a ha; simp; omega) (.slice A n c)).set_ (p := ⟨w.heap.size, 1, none⟩) (fun a ha => by have := f1 a ha; simp; omega) (.slice A' m c')
    simpa using this
  · have := (h2.set_ (p := ⟨w.heap.size, 0, none⟩) (fun a ha => by have := f2 a ha; simp; omega) (.slice A n c)).set_ (p := ⟨w.heap.size, 1, none⟩) (fun a ha => by have := f2 a ha; simp; omega) (.slice A' m c')
    simpa using this
  · exact ((bx (bt hb hb2)).setCell (Nat.le_refl _) _).setCell (Nat.le_refl _) _

set_option maxHeartbeats 1600000 in
theorem standard_any (l : List UInt8) (w : World) (E : Env w) :
    Calls Tryd.prog 22 #[.string ⟨l.toArray⟩] w (InPost (stdC' l) (stdS l) (stdE l) w) := by
  obtain ⟨t, fr, hr⟩ := E.srow
  have hg := E.big
  have hr2 : ∀ o, (w.alloc o).heap[0]? = some (.cells stdC t fr) := fun o => ((ba w o).block _ (by omega)).trans hr
  have E1 := E.alloc zIn
  go_enter Tryd.func22, Tryd.ntmps22
  go_wp2_with (refine wpList_load_row rfl 82 _ rfl 0 rfl t stdC fr _ (hr2 _) Tryd.underlying82 rfl stdC_load ?_)
  go_loopw [7, 5] (fun i _ wr => ∃ k : Nat, k ≤ 9 ∧ i = .int .i64 k ∧ (∀ n, n < k → stnB n ≠ l) ∧ Below (w.alloc zIn).heap.size (w.alloc zIn) wr) (fun i _ _ => 9 - (intOf i).toNat)
  case atStart => exact ⟨0, by omega, rfl, fun n hn => by omega, Below.refl _ _⟩
  case round =>
    obtain ⟨k, hk, rfl, hno, hb⟩ := hrel
    have HN := Lib.hid hno
    clear hno
    have Ew := E1.below hb
    obtain ⟨s0, s1⟩ := keepb hb 0
    obtain ⟨s2, s3⟩ := keepb hb 1
    have hz : w.heap.size < wr.heap.size := by have := hb.size; simp at this; omega
    simp at s0 s2
    by_cases hlt : k < 9
    · have hix := stdC_ix k hlt
      by_cases hh : stnB k = l
      · have h2 : ((stn k).toList == l) = true := by rw [stn_list, hh]; simp
        have HA := Lib.hid (stdAt_hit l k hlt hh HN.out)
        clear hh
        go_wp2_with (go_at_call 27; refine (parse_any (sttB k) _ (Ew.alloc _) (stt_len k hlt)).mono ?_; intro e w2 hpost; obtain ⟨A, n, c, A', m, c', rfl, hbT, hP⟩ := inPost_stored (bal hb _) hpost; obtain ⟨r0, r1⟩ := keepb hbT 0; obtain ⟨r2, r3⟩ := keepb hbT 1; simp at r0 r2; have HPP := Lib.hid hP; clear hP hpost)
        have e1 : stdAt l ≠ 9 := by rw [HA.out]; omega
        rw [stdC', if_neg e1, stdS, if_neg e1, stdE, if_neg e1, HA.out]
        refine bodyPost_ret (v := .tuple #[.agg #[.slice A n c, .slice A' m c'], .int .i64 (prsE (sttB k))]) ?_ rfl HPP.out
        simp [results, Tryd.results22, go_sem, r0, r2]
        done
      · have h2 : ((stn k).toList == l) = false := by rw [stn_list]; simpa using hh
        have HH := Lib.hid hh
        clear hh
        go_wp2_with (fail)
        go_roundw
        case rel =>
          refine ⟨k + 1, by omega, by go_num, fun n hn => ?_, bal hb _⟩
          by_cases e : n = k
          · subst e; exact HH.out
          · exact HN.out n (by omega)
        case measure => simp [intOf]; omega
    · have hk9 : k = 9 := by omega
      have HA := Lib.hid (stdAt_miss l (by rw [← hk9]; exact HN.out))
      clear hk9
      go_wp2_with (fail)
      rw [stdC', if_pos HA.out, stdS, if_pos HA.out, stdE, if_pos HA.out]
      refine bodyPost_ret (v := .tuple #[.agg #[.slice none 0 0, .slice none 0 0], .int .i64 3]) ?_ rfl (inPost_err (((bx hb).setCell (Nat.le_refl _) _).setCell (Nat.le_refl _) _))
      simp [results, Tryd.results22, go_sem, s0, s2]
      done

end Go.Proofs.YtdaeanjjmbibmaaDoor
