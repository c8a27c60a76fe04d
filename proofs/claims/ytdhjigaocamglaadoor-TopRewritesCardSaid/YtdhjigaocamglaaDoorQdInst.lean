/- What the program's At returns for any instrument and place. -/
import Derived.Test.YtdhjigaocamglaaDoorQdTk
import Derived.Laws.AppendOwn
import Derived.Laws.OwnMore
import Derived.Deep.AppendLies
namespace Go.Proofs.YtdhjigaocamglaaDoor
open Go.RowKit

theorem chk_ok {C : List Cr} {S : List Int} (h : chk C S = 0) : C.length ≤ 14 ∧ S.length ≤ 18 ∧ riseB 0 S = true ∧ crsErr S C = 0 := by
  unfold chk at h
  by_cases h1 : 14 < C.length ∨ 18 < S.length
  · rw [if_pos h1] at h; cases h
  · rw [if_neg h1] at h
    by_cases h2 : C.length = 0 ∨ riseB 0 S = false
    · rw [if_pos h2] at h; cases h
    · rw [if_neg h2] at h
      refine ⟨by omega, by omega, ?_, h⟩
      cases hr : riseB 0 S with
      | true => rfl
      | false => exact absurd (.inr hr) h2
theorem balA {w W : World} (h : Below w.heap.size w W) (o : Obj) : Below w.heap.size w (W.alloc o) := h.alloc h.size o
end Go.Proofs.YtdhjigaocamglaaDoor

/- What the reference's Check and Sound return for any instrument. -/
namespace Go.Proofs.YtdhjigaocamglaaDoor
open Go.RowKit

theorem crsErr_at {C : List Cr} {S : List Int} {k : Nat} {x : Cr} (h : crsErr S C = crsErr S (C.drop k)) (hd : C.drop k = x :: C.drop (k + 1)) (e : Int) (he : crErr S x = e) (hne : e ≠ 0) : crsErr S C = e := by
  rw [h, hd, crsErr, if_neg (by rw [he]; exact hne), he]
theorem crsErr_go {C : List Cr} {S : List Int} {k : Nat} {x : Cr} (h : crsErr S C = crsErr S (C.drop k)) (hd : C.drop k = x :: C.drop (k + 1)) (he : crErr S x = 0) : crsErr S C = crsErr S (C.drop (k + 1)) := by
  rw [h, hd, crsErr, if_pos he]

set_option maxHeartbeats 3200000 in
theorem rcheck_any (A A' : Option Addr) (n c m c' : Nat) (C : List Cr) (S : List Int) (w : World) (hC : Sl w w.heap.size 3 A n c (crC C)) (hS : Sl w w.heap.size 1 A' m c' (intC S)) (hn : n = C.length) (hm : m = S.length)
    (hb : n ≤ 9223372036854775807) (hb2 : m ≤ 9223372036854775807) :
    Calls Tryd.prog 55 #[.agg #[.slice A n c, .slice A' m c']] w fun e w' => e = .returned (.int .i64 (chk C S)) ∧ Below w.heap.size w w' := by
  by_cases h1 : 14 < C.length ∨ 18 < S.length
  · have H := Lib.hid (chk_many h1)
    by_cases g1 : (14 : Int) < n
    · clear h1 hC hS hn hm
      go_enter Tryd.func55, Tryd.ntmps55
      go_wp2_with (fail)
      go_ret
      exact ⟨ret_int H.out.symm, ba _ _⟩
    · have g2 : (18 : Int) < m := by omega
      clear h1 hC hS hn hm
      go_enter Tryd.func55, Tryd.ntmps55
      go_wp2_with (fail)
      go_ret
      exact ⟨ret_int H.out.symm, ba _ _⟩
  · have g1 : (n : Int) ≤ 14 := by omega
    have g2 : (m : Int) ≤ 18 := by omega
    have HM := Lib.hid hm
    have HN := Lib.hid hn
    have HS : Hid (∀ o, Sl (w.alloc o) (w.alloc o).heap.size 1 A' m c' (intC S)) := fun o => hS.below (ba w o)
    have HC : Hid (∀ o, Sl (w.alloc o) (w.alloc o).heap.size 3 A n c (crC C)) := fun o => hC.below (ba w o)
    by_cases h2 : C.length = 0
    · have H := Lib.hid (chk_none h1 (.inl h2))
      have g3 : ((n : Int) == 0) = true := by simp; omega
      clear h1 h2 hC hS hn hm
      go_enter Tryd.func55, Tryd.ntmps55
      go_wp2_with (fail)
      go_ret
      exact ⟨ret_int H.out.symm, ba _ _⟩
    · have g3 : ((n : Int) == 0) = false := by simp; omega
      have HF : Hid (riseB 0 S = false → chk C S = 11) := fun h => chk_none h1 (.inr h)
      have HT : Hid (riseB 0 S = true → chk C S = crsErr S C) := fun h => chk_rest h1 h2 h
      clear h1 h2 hC hS hn hm
      go_enter Tryd.func55, Tryd.ntmps55
      go_wp2_with (fail)
      go_loop [3, 4] (fun b i => ∃ (k : Nat) (bv : Int), k ≤ m ∧ i = .int .i64 k ∧ b = .int .i64 bv ∧ riseB 0 S = riseB bv (S.drop k)) (fun _ i => m - (intOf i).toNat)
      case atStart => exact ⟨0, 0, by omega, rfl, rfl, rfl⟩
      case round =>
        obtain ⟨k, bv, hk, rfl, rfl, hr⟩ := hrel
        have HR := Lib.hid hr
        clear hr
        by_cases hlt : k < m
        · obtain ⟨b, off, rfl, hB, hc⟩ := (HS.out (.cells #[.slice A n c, .slice A' m c'] 25)).2.2 (by omega)
          have hcell := hc k _ (intC_at S k (by have := HM.out; omega))
          have HD := Lib.hid (drop_cons S k (by have := HM.out; omega))
          clear hc HS HC
          generalize S.getD k 0 = s at *
          by_cases h1 : s ≤ bv
          · have H := HF.out (by rw [HR.out, HD.out]; simp [riseB, h1])
            have HX := Lib.hid H
            clear H
            go_wp2_with (fail)
            go_ret
            exact ⟨ret_int HX.out.symm, ba _ _⟩
          · by_cases h2 : 127 < s
            · have H := HF.out (by rw [HR.out, HD.out]; simp [riseB, h2])
              have HX := Lib.hid H
              clear H
              go_wp2_with (fail)
              go_ret
              exact ⟨ret_int HX.out.symm, ba _ _⟩
            · go_wp2_with (fail)
              go_round
              case rel => exact ⟨k + 1, s, by omega, by go_num, rfl, by rw [HR.out, HD.out]; simp [riseB]; omega⟩
              case measure => simp [intOf]; omega
        · have hkm : k = m := by omega
          have hrt : riseB 0 S = true := by rw [HR.out, List.drop_of_length_le (by have := HM.out; omega)]; rfl
          have HRT := Lib.hid hrt
          have HE := Lib.hid (HT.out hrt)
          clear hrt hkm HF HT HR
          go_wp2_with (fail)
          go_loopw [5, 6, 7] (fun i _ _ wr => ∃ k : Nat, k ≤ n ∧ i = .int .i64 k ∧ crsErr S C = crsErr S (C.drop k) ∧ Below (w.alloc (.cells #[.slice A n c, .slice A' m c'] 25)).heap.size (w.alloc (.cells #[.slice A n c, .slice A' m c'] 25)) wr) (fun i _ _ _ => n - (intOf i).toNat)
          case atStart => exact ⟨0, by omega, rfl, rfl, Below.refl _ _⟩
          case round =>
            obtain ⟨k, hk, rfl, hr, hbw⟩ := hrel
            have HG := Lib.hid hr
            clear hr
            obtain ⟨q0, _⟩ := keepb hbw 0
            obtain ⟨q2, _⟩ := keepb hbw 1
            simp at q0 q2
            have hz : w.heap.size < wr.heap.size := by have := hbw.size; simp at this; omega
            by_cases hlt2 : k < n
            · obtain ⟨b, off, rfl, hB, hc⟩ := ((HC.out _).below hbw).2.2 (by omega)
              obtain ⟨i0, i1, i2⟩ := crC_at C k (by have := HN.out; omega)
              have k0 := hc _ _ i0
              have k1 := hc _ _ i1
              have k2 := hc _ _ i2
              rw [← Nat.add_assoc] at k1 k2
              have HD := Lib.hid (drop_consC C k (by have := HN.out; omega))
              clear hc i0 i1 i2
              generalize C.getD k z0 = x at *
              obtain ⟨p, f, o⟩ := x
              dsimp only at k0 k1 k2
              by_cases hf1 : f < 0
              · have HX := Lib.hid (HE.out.trans (crsErr_at HG.out HD.out 13 (crErr_fret (.inl hf1)) (by decide)))
                clear HS HC
                go_wp2_with (fail)
                go_ret
                exact ⟨ret_int HX.out.symm, bx (balA hbw _)⟩
              · by_cases hf2 : (m : Int) < f
                · have hf2' : (S.length : Int) < f := by have := HM.out; omega
                  have HX := Lib.hid (HE.out.trans (crsErr_at HG.out HD.out 13 (crErr_fret (c := ⟨p, f, o⟩) (.inr hf2')) (by decide)))
                  clear hf2'
                  clear HS HC
                  go_wp2_with (fail)
                  go_ret
                  exact ⟨ret_int HX.out.symm, bx (balA hbw _)⟩
                · have hf : 0 ≤ f ∧ f ≤ (S.length : Int) := by have := HM.out; omega
                  by_cases hp1 : p < 0
                  · have HX := Lib.hid (HE.out.trans (crsErr_at HG.out HD.out 10 (crErr_pitch hf (by simp [isP]; omega)) (by decide)))
                    clear HS HC hf
                    go_wp2_with (fail)
                    go_ret
                    exact ⟨ret_int HX.out.symm, bx (balA hbw _)⟩
                  · by_cases hp2 : 127 < p
                    · have HX := Lib.hid (HE.out.trans (crsErr_at HG.out HD.out 10 (crErr_pitch hf (by simp [isP]; omega)) (by decide)))
                      clear HS HC hf
                      go_wp2_with (fail)
                      go_ret
                      exact ⟨ret_int HX.out.symm, bx (balA hbw _)⟩
                    · have hpp : isP p = true := isP_iff.2 ⟨by omega, by omega⟩
                      have hcr := crErr_top (c := ⟨p, f, o⟩) hf hpp
                      clear hpp
                      obtain ⟨r1, r2⟩ := riseV_bd HRT.out hf.1 hf.2
                      by_cases hf0 : 0 < f
                      · obtain ⟨g, rfl⟩ : ∃ g : Nat, f = (g : Int) + 1 := ⟨(f - 1).toNat, by omega⟩
                        obtain ⟨b2, off2, rfl, hB2, hc2⟩ := ((HS.out _).below hbw).2.2 (by omega)
                        have hcell := hc2 g _ (intC_at S g (by have := HM.out; omega))
                        have hv : riseV S ((g : Int) + 1) = S.getD g 0 := by unfold riseV; rw [if_neg (by omega), show ((g : Int) + 1 - 1).toNat = g by omega]
                        unfold crTop at hcr
                        dsimp only at hcr
                        rw [hv] at r1 r2 hcr
                        clear hc2 HS HC hf
                        generalize S.getD g 0 = s at *
                        cases o with
                        | false =>
                          by_cases ht : 127 < p + s
                          · have HX := Lib.hid (HE.out.trans (crsErr_at HG.out HD.out 10 (hcr.trans (if_pos (by simpa using ht))) (by decide)))
                            clear hcr
                            go_wp2_with (fail)
                            go_ret
                            exact ⟨ret_int HX.out.symm, bx (balA hbw _)⟩
                          · have HX := Lib.hid (crsErr_go HG.out HD.out (hcr.trans (if_neg (by simpa using ht))))
                            clear hcr
                            go_wp2_with (fail)
                            go_roundw
                            case rel => exact ⟨k + 1, by omega, by go_num, HX.out, balA hbw _⟩
                            case measure => simp [intOf]; omega
                        | true =>
                          by_cases ht : 127 < p + s + 12
                          · have HX := Lib.hid (HE.out.trans (crsErr_at HG.out HD.out 10 (hcr.trans (if_pos (by simpa using ht))) (by decide)))
                            clear hcr
                            go_wp2_with (fail)
                            go_ret
                            exact ⟨ret_int HX.out.symm, bx (balA hbw _)⟩
                          · have HX := Lib.hid (crsErr_go HG.out HD.out (hcr.trans (if_neg (by simpa using ht))))
                            clear hcr
                            go_wp2_with (fail)
                            go_roundw
                            case rel => exact ⟨k + 1, by omega, by go_num, HX.out, balA hbw _⟩
                            case measure => simp [intOf]; omega
                      · obtain rfl : f = 0 := by omega
                        have hv : riseV S 0 = 0 := rfl
                        unfold crTop at hcr
                        dsimp only at hcr
                        rw [hv] at hcr
                        clear HS HC hf r1 r2
                        cases o with
                        | false =>
                          have HX := Lib.hid (crsErr_go HG.out HD.out (hcr.trans (if_neg (by simp; omega))))
                          clear hcr
                          go_wp2_with (fail)
                          go_roundw
                          case rel => exact ⟨k + 1, by omega, by go_num, HX.out, balA hbw _⟩
                          case measure => simp [intOf]; omega
                        | true =>
                          by_cases ht : 127 < p + 12
                          · have HX := Lib.hid (HE.out.trans (crsErr_at HG.out HD.out 10 (hcr.trans (if_pos (by simpa using ht))) (by decide)))
                            clear hcr
                            go_wp2_with (fail)
                            go_ret
                            exact ⟨ret_int HX.out.symm, bx (balA hbw _)⟩
                          · have HX := Lib.hid (crsErr_go HG.out HD.out (hcr.trans (if_neg (by simpa using ht))))
                            clear hcr
                            go_wp2_with (fail)
                            go_roundw
                            case rel => exact ⟨k + 1, by omega, by go_num, HX.out, balA hbw _⟩
                            case measure => simp [intOf]; omega
            · have hkn : k = n := by omega
              have HX : Hid (chk C S = 0) := HE.out.trans (by rw [HG.out, List.drop_of_length_le (by have := HN.out; omega)]; rfl)
              clear HS HC
              go_wp2_with (fail)
              go_ret
              exact ⟨ret_int HX.out.symm, bx hbw⟩

end Go.Proofs.YtdhjigaocamglaaDoor

/- What the reference's Sound and At return for any instrument and place. -/
namespace Go.Proofs.YtdhjigaocamglaaDoor
open Go.RowKit

end Go.Proofs.YtdhjigaocamglaaDoor

/- An instrument in memory that a call has made: what it owns, and what a function returns that hands one back. -/
namespace Go.Proofs.YtdhjigaocamglaaDoor
open Go.RowKit

theorem Sl.none_ (w : World) (B size : Nat) : Sl w B size none 0 0 [] := ⟨Nat.le_refl _, by simp, fun h => absurd h (by omega)⟩
theorem Sl.set_ {w : World} {B size n c : Nat} {A : Option Addr} {xs : List Value} (h : Sl w B size A n c xs) {p : Addr} (hp : ∀ a, A = some a → a.block ≠ p.block) (u : Value) : Sl (w.setCell p u) B size A n c xs :=
  ⟨h.1, h.2.1, fun hn => by
    obtain ⟨b, off, e, hb, hc⟩ := h.2.2 hn
    have := hp _ e
    exact ⟨b, off, e, hb, fun j x hx => (World.cell?_setCell_other w p _ u (fun e => this (by rw [e]))).trans (hc j x hx)⟩⟩
abbrev zIn : Obj := .cells #[.slice none 0 0, .slice none 0 0] 25

theorem own_below {w w2 : World} {base : Nat} {e : TypeId} {size : Nat} {v : Value} {n : Nat} {xs : List Value} (h : w.ownsRow base e size v n xs) (hb : Below w.heap.size w w2) : w2.ownsRow base e size v n xs := by
  refine ⟨h.1, ?_⟩
  rcases h.2 with h2 | ⟨g, cap, cur, h1, h2, h3, h4⟩
  · exact .inl h2
  · refine .inr ⟨g, cap, cur, h1, h2, (hb.block g ?_).trans h3, h4⟩
    rcases Nat.lt_or_ge g w.heap.size with hlt | hge
    · exact hlt
    · rw [Array.getElem?_eq_none hge] at h3; cases h3
theorem Sl_own {w : World} {base : Nat} {e : TypeId} {size : Nat} {A : Option Addr} {n c : Nat} {xs : List Value} (h : w.ownsRow base e size (.slice A n c) n xs) : Sl w w.heap.size size A n c xs := by
  rcases h.2 with ⟨hv, h0⟩ | ⟨g, cap, cur, hv, hbs, hh, hle, _, hsz, htk⟩
  · injection hv with h1 h2 h3
    exact ⟨by omega, h.1, fun hn => by omega⟩
  · injection hv with h1 h2 h3
    subst h1 h3
    refine ⟨hle, h.1, fun hn => ⟨g, 0, rfl, ?_, fun j u hu => ?_⟩⟩
    · rcases Nat.lt_or_ge g w.heap.size with hlt | hge
      · exact hlt
      · rw [Array.getElem?_eq_none hge] at hh; cases hh
    · have := h.cells (g := g) rfl j u hu
      rw [Nat.zero_add]
      unfold Addr.add at this
      split at this
      · rename_i hj; subst hj; exact this
      · simpa using this

/-- A block that is known whole. -/
def Blk (w : World) (g : Nat) (t : TypeId) (cs : Array Value) : Prop := w.heap[g]? = some (.cells cs t (0, 0))
theorem Blk.lt {w : World} {g : Nat} {t : TypeId} {cs : Array Value} (h : Blk w g t cs) : g < w.heap.size := by
  rcases Nat.lt_or_ge g w.heap.size with hlt | hge
  · exact hlt
  · unfold Blk at h; rw [Array.getElem?_eq_none hge] at h; cases h
theorem Blk.cell {w : World} {g : Nat} {t : TypeId} {cs : Array Value} (h : Blk w g t cs) (i : Nat) : w.cell? ⟨g, i, none⟩ = cs[i]? := cell_of_row w g i cs t (0, 0) h
theorem Blk.frozen {w : World} {g : Nat} {t : TypeId} {cs : Array Value} (h : Blk w g t cs) (i : Nat) : w.frozen? ⟨g, i, none⟩ = false := by
  unfold Blk at h
  simp [World.frozen?, h]
theorem Blk.below {w w' : World} {g : Nat} {t : TypeId} {cs : Array Value} (h : Blk w g t cs) (hb : Below w.heap.size w w') : Blk w' g t cs := (hb.block g h.lt).trans h
theorem Blk.grown {w w' : World} {g : Nat} {t : TypeId} {cs : Array Value} {row : Option Nat} (h : Blk w g t cs) (hb : w.grownBy w' row) (hg : some g ≠ row) : Blk w' g t cs := (hb.block g h.lt hg).trans h
theorem Blk.set_ {w : World} {g : Nat} {t : TypeId} {cs : Array Value} (h : Blk w g t cs) (i : Nat) (u : Value) : Blk (w.setCell ⟨g, i, none⟩ u) g t (cs.setIfInBounds i u) := by
  unfold Blk at h ⊢
  simp [World.setCell, Array.getElem?_modify, h]

theorem Tryd.info60 : (Tryd.prog.info? 60).map (fun i => (i.zero, i.size, i.bytes)) = some (some (.agg #[.int .i64 0, .int .i64 0, .bool false]), 3, 24) := by kernel_rfl
theorem Tryd.info3' : (Tryd.prog.info? 3).map (fun i => (i.zero, i.size, i.bytes)) = some (some (.int .i64 0), 1, 8) := by kernel_rfl

theorem own_slice {w : World} {base : Nat} {e : TypeId} {size : Nat} {v : Value} {n : Nat} {xs : List Value} (h : w.ownsRow base e size v n xs) : ∃ A c, v = .slice A n c := by
  rcases h.2 with ⟨rfl, rfl⟩ | ⟨g, cap, cur, rfl, _⟩
  · exact ⟨none, 0, rfl⟩
  · exact ⟨_, cap, rfl⟩

end Go.Proofs.YtdhjigaocamglaaDoor
