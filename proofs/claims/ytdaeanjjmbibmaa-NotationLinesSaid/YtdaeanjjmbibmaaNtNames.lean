/- Notation: the systems' names, the program's and the reference's; the law NotationNames. -/
import Derived.Test.YtdaeanjjmbibmaaNt3
namespace Go.Proofs.Ytdaeanjjmbibmaa
open Go.RowKit

/-- The name of a system; its error. -/
def snm (s : Int) : List UInt8 := if s = 1 then [102, 114, 101, 110, 99, 104] else if s = 2 then [105, 116, 97, 108, 105, 97, 110] else if s = 3 then [115, 112, 97, 110, 105, 115, 104] else if s = 4 then [103, 101, 114, 109, 97, 110] else []
def snE (s : Int) : Int := if s = 1 ∨ s = 2 ∨ s = 3 ∨ s = 4 then 0 else 30
theorem nRet2 {a b : ByteArray} {x y : Int} (h : a = b) (h2 : x = y) : Ending.returned (.tuple #[.string a, .int .i64 x]) = .returned (.tuple #[.string b, .int .i64 y]) := by rw [h, h2]
theorem nRetU {a b x y : Int} (h : a = b) (h2 : x = y) : Ending.returned (.tuple #[.int .u8 a, .int .i64 x]) = .returned (.tuple #[.int .u8 b, .int .i64 y]) := by rw [h, h2]

theorem mNameF : ∀ w : World, (method 247 73 (.agg #[]) "theorbo/notation.name").run Try.prog w = .ok (70, .agg #[]) w := fun _ => by kernel_rfl
theorem mNameI : ∀ w : World, (method 247 77 (.agg #[]) "theorbo/notation.name").run Try.prog w = .ok (106, .agg #[]) w := fun _ => by kernel_rfl
theorem mNameS : ∀ w : World, (method 247 79 (.agg #[]) "theorbo/notation.name").run Try.prog w = .ok (114, .agg #[]) w := fun _ => by kernel_rfl
theorem mNameG : ∀ w : World, (method 247 81 (.agg #[]) "theorbo/notation.name").run Try.prog w = .ok (121, .agg #[]) w := fun _ => by kernel_rfl
set_option maxHeartbeats 800000 in
theorem nameF (w : World) : Calls Try.prog 70 #[.agg #[]] w fun e w' => e = .returned (.string ⟨#[102, 114, 101, 110, 99, 104]⟩) ∧ Below w.heap.size w w' := by
  go_enter Try.func70, Try.ntmps70
  go_wp2_with (fail)
  go_ret
  exact ⟨rfl, by first | exact Below.refl _ _ | exact nBa _ _⟩
set_option maxHeartbeats 800000 in
theorem nameI (w : World) : Calls Try.prog 106 #[.agg #[]] w fun e w' => e = .returned (.string ⟨#[105, 116, 97, 108, 105, 97, 110]⟩) ∧ Below w.heap.size w w' := by
  go_enter Try.func106, Try.ntmps106
  go_wp2_with (fail)
  go_ret
  exact ⟨rfl, by first | exact Below.refl _ _ | exact nBa _ _⟩
set_option maxHeartbeats 800000 in
theorem nameS (w : World) : Calls Try.prog 114 #[.agg #[]] w fun e w' => e = .returned (.string ⟨#[115, 112, 97, 110, 105, 115, 104]⟩) ∧ Below w.heap.size w w' := by
  go_enter Try.func114, Try.ntmps114
  go_wp2_with (fail)
  go_ret
  exact ⟨rfl, by first | exact Below.refl _ _ | exact nBa _ _⟩
set_option maxHeartbeats 800000 in
theorem nameG (w : World) : Calls Try.prog 121 #[.agg #[]] w fun e w' => e = .returned (.string ⟨#[103, 101, 114, 109, 97, 110]⟩) ∧ Below w.heap.size w w' := by
  go_enter Try.func121, Try.ntmps121
  go_wp2_with (fail)
  go_ret
  exact ⟨rfl, by first | exact Below.refl _ _ | exact nBa _ _⟩

set_option maxRecDepth 100000 in
set_option maxHeartbeats 1600000 in
theorem sysName_any (s : Int) (w : World) : Calls Try.prog 8 #[.int .u8 s] w fun e w' => e = .returned (.tuple #[.string ⟨(snm s).toArray⟩, .int .i64 (snE s)]) ∧ Below w.heap.size w w' := by
  by_cases h1 : s = 1
  · subst h1
    have hm := mNameF
    go_enter Try.func8, Try.ntmps8
    go_wp2_with (first | (go_at_call 20; refine (sys1 _).mono ?_; rintro e w1 ⟨rfl, rfl⟩) | (go_at_call 70; refine (nameF _).mono ?_; rintro e w2 ⟨rfl, hb2⟩))
    go_ret2
    exact ⟨nRet2 rfl rfl, hb2⟩
  by_cases h2 : s = 2
  · subst h2
    have hm := mNameI
    go_enter Try.func8, Try.ntmps8
    go_wp2_with (first | (go_at_call 20; refine (sys2 _).mono ?_; rintro e w1 ⟨rfl, rfl⟩) | (go_at_call 106; refine (nameI _).mono ?_; rintro e w2 ⟨rfl, hb2⟩))
    go_ret2
    exact ⟨nRet2 rfl rfl, hb2⟩
  by_cases h3 : s = 3
  · subst h3
    have hm := mNameS
    go_enter Try.func8, Try.ntmps8
    go_wp2_with (first | (go_at_call 20; refine (sys3 _).mono ?_; rintro e w1 ⟨rfl, rfl⟩) | (go_at_call 114; refine (nameS _).mono ?_; rintro e w2 ⟨rfl, hb2⟩))
    go_ret2
    exact ⟨nRet2 rfl rfl, hb2⟩
  by_cases h4 : s = 4
  · subst h4
    have hm := mNameG
    go_enter Try.func8, Try.ntmps8
    go_wp2_with (first | (go_at_call 20; refine (sys4 _).mono ?_; rintro e w1 ⟨rfl, rfl⟩) | (go_at_call 121; refine (nameG _).mono ?_; rintro e w2 ⟨rfl, hb2⟩))
    go_ret2
    exact ⟨nRet2 rfl rfl, hb2⟩
  have HS := Lib.hid (sysNo s w ⟨h1, h2, h3, h4⟩)
  have HV : Hid (snm s = [] ∧ snE s = 30) := by simp [Hid, snm, snE, h1, h2, h3, h4]
  clear h1 h2 h3 h4
  go_enter Try.func8, Try.ntmps8
  go_wp2_with (go_at_call 20; refine HS.out.mono ?_; rintro e w1 ⟨rfl, rfl⟩)
  go_ret2
  exact ⟨nRet2 (by rw [HV.out.1]) HV.out.2.symm, Below.refl _ _⟩

def snC : Array Value := #[.string ⟨#[]⟩, .string ⟨(snm 1).toArray⟩, .string ⟨(snm 2).toArray⟩, .string ⟨(snm 3).toArray⟩, .string ⟨(snm 4).toArray⟩]
theorem snC_at (k : Nat) (h : k ≤ 4) : snC[k]? = some (.string ⟨(snm k).toArray⟩) := by
  have : k = 0 ∨ k = 1 ∨ k = 2 ∨ k = 3 ∨ k = 4 := by omega
  rcases this with rfl | rfl | rfl | rfl | rfl <;> rfl
set_option maxHeartbeats 800000 in
theorem rnames3 (w : World) : Calls Try.prog 22 #[] w fun e w' => e = .returned (.slice (some ⟨w.heap.size, 0, none⟩) 5 5) ∧ w.alloc (.cells snC 9) = w' := by
  go_enter Try.func22, Try.ntmps22
  go_wp2_with (fail)
  go_ret
  exact ⟨rfl, congrArg (fun c => w.alloc (.cells c 9)) (by kernel_rfl)⟩
set_option maxHeartbeats 800000 in
theorem known_any (s : Int) (w : World) : Calls Try.prog 21 #[.int .u8 s] w fun e w' => e = .returned (.bool (decide (1 ≤ s) && decide (s ≤ 4))) ∧ w = w' := by
  go_enter Try.func21, Try.ntmps21
  go_wp2_with (fail)
  all_goals (go_ret; refine ⟨?_, rfl⟩; congr 2; simp; try omega)
set_option maxRecDepth 100000 in
set_option maxHeartbeats 1600000 in
theorem rsysName_any (s : Int) (w : World) : Calls Try.prog 9 #[.int .u8 s] w fun e w' => e = .returned (.tuple #[.string ⟨(snm s).toArray⟩, .int .i64 (snE s)]) ∧ Below w.heap.size w w' := by
  by_cases h : 1 ≤ s ∧ s ≤ 4
  · obtain ⟨k, rfl⟩ := Int.eq_ofNat_of_zero_le (show 0 ≤ s by omega)
    have hk : k ≤ 4 := by omega
    have g1 : (k : Int) < 5 := by omega
    have HV : Hid (snE (k : Int) = 0) := by unfold Hid snE; rw [if_pos (by omega)]
    have HKN : Hid ((decide (1 ≤ (k : Int)) && decide ((k : Int) ≤ 4)) = true) := by simp [Hid]; omega
    have HC : Hid ((w.alloc (.cells snC 9)).cell? ⟨w.heap.size, k, none⟩ = some (.string ⟨(snm k).toArray⟩)) := ((nKeep (Below.refl _ _) k).1).trans (snC_at k hk)
    have c0 := HC.out
    clear h
    go_enter Try.func9, Try.ntmps9
    go_wp2_with (first | (go_at_call 21; refine (known_any _ _).mono ?_; rintro e w1 ⟨rfl, rfl⟩; rw [HKN.out]) | (go_at_call 22; refine (rnames3 _).mono ?_; rintro e w2 ⟨rfl, rfl⟩))
    go_ret2
    exact ⟨nRet2 rfl HV.out.symm, nBa _ _⟩
  · have HV : Hid (snm s = [] ∧ snE s = 30) := by
      have h1 : s ≠ 1 := by omega
      have h2 : s ≠ 2 := by omega
      have h3 : s ≠ 3 := by omega
      have h4 : s ≠ 4 := by omega
      simp [Hid, snm, snE, h1, h2, h3, h4]
    have HKN : Hid ((decide (1 ≤ s) && decide (s ≤ 4)) = false) := by simp [Hid]; omega
    clear h
    go_enter Try.func9, Try.ntmps9
    go_wp2_with (go_at_call 21; refine (known_any _ _).mono ?_; rintro e w1 ⟨rfl, rfl⟩; rw [HKN.out])
    go_ret2
    exact ⟨nRet2 (by rw [HV.out.1]) HV.out.2.symm, Below.refl _ _⟩

/-- The system of a name, or 5. -/
def psAt (l : List UInt8) : Nat := if snm 1 = l then 1 else if snm 2 = l then 2 else if snm 3 = l then 3 else if snm 4 = l then 4 else 5
def psV (l : List UInt8) : Int := if psAt l = 5 then 0 else psAt l
def psE (l : List UInt8) : Int := if psAt l = 5 then 4 else 0
theorem psAt_hit (l : List UInt8) (k : Nat) (h1 : 1 ≤ k) (h : k ≤ 4) (hk : snm k = l) (hn : ∀ j : Nat, 1 ≤ j → j < k → snm j ≠ l) : psV l = k ∧ psE l = 0 := by
  have : k = 1 ∨ k = 2 ∨ k = 3 ∨ k = 4 := by omega
  have n1 : 1 < k → snm 1 ≠ l := hn 1 (by omega)
  have n2 : 2 < k → snm 2 ≠ l := hn 2 (by omega)
  have n3 : 3 < k → snm 3 ≠ l := hn 3 (by omega)
  have e : psAt l = k := by
    unfold psAt
    rcases this with rfl | rfl | rfl | rfl
    · rw [if_pos (show snm 1 = l from hk)]
    · rw [if_neg (n1 (by omega)), if_pos (show snm 2 = l from hk)]
    · rw [if_neg (n1 (by omega)), if_neg (n2 (by omega)), if_pos (show snm 3 = l from hk)]
    · rw [if_neg (n1 (by omega)), if_neg (n2 (by omega)), if_neg (n3 (by omega)), if_pos (show snm 4 = l from hk)]
  unfold psV psE
  rw [e, if_neg (by omega), if_neg (by omega)]
  exact ⟨rfl, rfl⟩
theorem psAt_miss (l : List UInt8) (hn : ∀ j : Nat, 1 ≤ j → j < 5 → snm j ≠ l) : psV l = 0 ∧ psE l = 4 := by
  have e : psAt l = 5 := by
    unfold psAt
    rw [if_neg (show snm 1 ≠ l from hn 1 (by omega) (by omega)), if_neg (show snm 2 ≠ l from hn 2 (by omega) (by omega)), if_neg (show snm 3 ≠ l from hn 3 (by omega) (by omega)), if_neg (show snm 4 ≠ l from hn 4 (by omega) (by omega))]
  unfold psV psE
  rw [e]
  exact ⟨rfl, rfl⟩

set_option maxRecDepth 100000 in
set_option maxHeartbeats 1600000 in
theorem parseSys_any (l : List UInt8) (w : World) : Calls Try.prog 10 #[.string ⟨l.toArray⟩] w fun e w' => e = .returned (.tuple #[.int .u8 (psV l), .int .i64 (psE l)]) ∧ Below w.heap.size w w' := by
  go_enter Try.func10, Try.ntmps10
  go_wp2_with (fail)
  go_loopw [4, 5, 6] (fun i _ _ wr => ∃ k : Nat, 1 ≤ k ∧ k ≤ 5 ∧ i = .int .u8 k ∧ Hid (∀ j : Nat, 1 ≤ j → j < k → snm j ≠ l) ∧ Below w.heap.size w wr) (fun i _ _ _ => 5 - (intOf i).toNat)
  case atStart => exact ⟨1, by omega, by omega, rfl, fun j h1 h2 => by omega, Below.refl _ _⟩
  case round =>
    obtain ⟨k, hk1, hk, rfl, HN, hbw⟩ := hrel
    by_cases hlt : k ≤ 4
    · have g1 : (k : Int) ≤ 4 := by omega
      have wk : IntKind.u8.wrap ((k : Int) + 1) = (k : Int) + 1 := by
        have : k = 1 ∨ k = 2 ∨ k = 3 ∨ k = 4 := by omega
        rcases this with rfl | rfl | rfl | rfl <;> rfl
      by_cases hh : snm k = l
      · have h2 : (snm k == l) = true := by simpa using hh
        have HA := Lib.hid (psAt_hit l k hk1 hlt hh HN.out)
        clear hh
        generalize hx : snm (k : Int) = x at *
        have HX := Lib.hid hx
        clear hx
        go_wp2_with (go_at_call 8; refine (sysName_any _ _).mono ?_; rintro e w2 ⟨rfl, hb2⟩; rw [HX.out])
        go_ret2
        exact ⟨nRetU HA.out.1.symm HA.out.2.symm, nBt hbw hb2⟩
      · have h2 : (snm k == l) = false := by simpa using hh
        have HH := Lib.hid hh
        clear hh
        generalize hx : snm (k : Int) = x at *
        have HX := Lib.hid hx
        clear hx
        go_wp2_with (go_at_call 8; refine (sysName_any _ _).mono ?_; rintro e w2 ⟨rfl, hb2⟩; rw [HX.out])
        go_roundw
        case rel =>
          refine ⟨k + 1, by omega, by omega, by go_num, fun j h1 h2 => ?_, nBt hbw hb2⟩
          by_cases e : j = k
          · subst e; rw [HX.out]; exact HH.out
          · exact HN.out j h1 (by omega)
        case measure => simp [intOf]; omega
    · obtain rfl : k = 5 := by omega
      have HA := Lib.hid (psAt_miss l HN.out)
      go_wp2_with (fail)
      go_ret2
      exact ⟨nRetU HA.out.1.symm HA.out.2.symm, hbw⟩

set_option maxRecDepth 100000 in
set_option maxHeartbeats 1600000 in
theorem rparseSys_any (l : List UInt8) (w : World) : Calls Try.prog 11 #[.string ⟨l.toArray⟩] w fun e w' => e = .returned (.tuple #[.int .u8 (psV l), .int .i64 (psE l)]) ∧ Below w.heap.size w w' := by
  go_enter Try.func11, Try.ntmps11
  go_wp2_with (fail)
  go_loopw [4] (fun i wr => ∃ k : Nat, 1 ≤ k ∧ k ≤ 5 ∧ i = .int .i64 k ∧ Hid (∀ j : Nat, 1 ≤ j → j < k → snm j ≠ l) ∧ Below w.heap.size w wr) (fun i _ => 5 - (intOf i).toNat)
  case atStart => exact ⟨1, by omega, by omega, rfl, fun j h1 h2 => by omega, Below.refl _ _⟩
  case round =>
    obtain ⟨k, hk1, hk, rfl, HN, hbw⟩ := hrel
    by_cases hlt : k ≤ 4
    · have g1 : (k : Int) ≤ 4 := by omega
      have g2 : (k : Int) < 5 := by omega
      have wk : IntKind.u8.wrap (k : Int) = (k : Int) := by
        have : k = 1 ∨ k = 2 ∨ k = 3 ∨ k = 4 := by omega
        rcases this with rfl | rfl | rfl | rfl <;> rfl
      have c0 : (wr.alloc (.cells snC 9)).cell? ⟨wr.heap.size, k, none⟩ = some (.string ⟨(snm k).toArray⟩) := ((nKeep (Below.refl _ _) k).1).trans (snC_at k hlt)
      by_cases hh : snm k = l
      · have h2 : (snm k == l) = true := by simpa using hh
        have HA := Lib.hid (psAt_hit l k hk1 hlt hh HN.out)
        clear hh
        generalize snm (k : Int) = x at c0 h2
        go_wp2_with (go_at_call 22; refine (rnames3 _).mono ?_; rintro e w2 ⟨rfl, rfl⟩)
        go_ret2
        exact ⟨nRetU HA.out.1.symm HA.out.2.symm, nBt hbw (nBa _ _)⟩
      · have h2 : (snm k == l) = false := by simpa using hh
        have HH := Lib.hid hh
        clear hh
        generalize snm (k : Int) = x at c0 h2
        go_wp2_with (go_at_call 22; refine (rnames3 _).mono ?_; rintro e w2 ⟨rfl, rfl⟩)
        go_roundw
        case rel =>
          refine ⟨k + 1, by omega, by omega, by go_num, fun j h1 h2 => ?_, nBt hbw (nBa _ _)⟩
          by_cases e : j = k
          · subst e; exact HH.out
          · exact HN.out j h1 (by omega)
        case measure => simp [intOf]; omega
    · obtain rfl : k = 5 := by omega
      have HA := Lib.hid (psAt_miss l HN.out)
      go_wp2_with (fail)
      go_ret2
      exact ⟨nRetU HA.out.1.symm HA.out.2.symm, hbw⟩

set_option maxRecDepth 100000 in
set_option maxHeartbeats 1600000 in
theorem law_notnames (s : Int) (l : List UInt8) (w : World) : Calls Try.prog 3 #[.int .u8 s, .string ⟨l.toArray⟩] w fun e w' => e = .returned (.bool true) ∧ Below w.heap.size w w' := by
  have H1 := Lib.hid (sysName_any s)
  have H2 := Lib.hid (rsysName_any s)
  have H3 := Lib.hid (parseSys_any l)
  have H4 := Lib.hid (rparseSys_any l)
  generalize snm s = a at *
  generalize snE s = b at *
  generalize psV l = c at *
  generalize psE l = d at *
  go_enter Try.func3, Try.ntmps3
  go_wp2_with (first | (go_at_call 8; refine (H1.out _).mono ?_; rintro e w1 ⟨rfl, hb1⟩) | (go_at_call 9; refine (H2.out _).mono ?_; rintro e w2 ⟨rfl, hb2⟩) | (go_at_call 10; refine (H3.out _).mono ?_; rintro e w3 ⟨rfl, hb3⟩) | (go_at_call 11; refine (H4.out _).mono ?_; rintro e w4 ⟨rfl, hb4⟩) | (go_at_call 12; refine (works3 _).mono ?_; rintro e w5 ⟨rfl, hb5⟩))
  go_ret
  exact ⟨rfl, nBt hb1 (nBt hb2 (nBt hb3 (nBt hb4 hb5)))⟩

end Go.Proofs.Ytdaeanjjmbibmaa
