/-
  instr.fits: whether an instruction has bytes, as the plain function tells it; of its one region of 66 operations each test by itself.
-/
import Derived.Test.YtmpelmihdpomjaaGreatSo01
import Derived.Test.YtmpelmihdpomjaaGreatSo11
import Derived.Test.YtmpelmihdpomjaaGreatSo04
import Derived.Deep.Cut
import Derived.IntWalk
set_option maxRecDepth 100000
set_option maxHeartbeats 4000000
namespace Go.Proofs.YtmpelmihdpomjaaGreat
open Go.RowKit Ins
theorem fits_at (op a b:Nat) (n:Int) (m:Nat) (A:Option Addr) (c:Nat) (w:World) (F:Int) (k ha bl:Bool) (p1 p2 p3 p4 p5 p6:Bool)
  (HFM:Hid (∀ w,Calls Tryz.prog 123 #[.int .u8 ↑op] w fun e w'=>e = .returned (.int .u8 F) ∧ w = w'))
  (HKN:Hid (∀ w,Calls Tryz.prog 124 #[.int .u8 ↑op] w fun e w'=>e = .returned (.bool k) ∧ w = w'))
  (HHA:Hid (∀ w,Calls Tryz.prog 125 #[.int .u8 F] w fun e w'=>e = .returned (.bool ha) ∧ w = w'))
  (HBL:Hid (∀ w,Calls Tryz.prog 126 #[.int .u32 ↑a] w fun e w'=>e = .returned (.bool bl) ∧ w = w'))
  (H1:Hid (p1 = (k && ((a:Int) == 0 || ha)))) (H2:Hid (p2 = (p1 && ((b:Int) == 0 || F == 6)))) (H3:Hid (p3 = (p2 && (n == 0 || F == 8 || F == 9)))) (H4:Hid (p4 = (p3 && ((m:Int) == 0 || F == 3)))) (H5:Hid (p5 = (p4 && (F != 1 || bl)))) (H6:Hid (p6 = (p5 && (F != 8 || n == wrap64 (wrap32 n))))) :
  Calls Tryz.prog 95 #[.agg #[.int .u8 ↑op,.int .u32 ↑a,.int .u32 ↑b,.int .i64 n,.slice A m c]] w fun e w'=>e = .returned (.bool p6) ∧ Below w.heap.size w w':=by
 go_enter Tryz.func95,Tryz.ntmps95
 go_upto_region 2 with (go_at_call 123;refine (HFM.out _).mono ?_;rintro e w' ⟨rfl,rfl⟩)
 apply fy
 simp only [List.append_eq,List.cons_append,List.nil_append,List.map_cons,List.map_nil,strip,thin]
 refine bd (fun (ax:Act) (wx:World)=>wx = (w.alloc (.cells #[.int .u8 ↑op,.int .u32 ↑a,.int .u32 ↑b,.int .i64 n,.slice A m c] 56)) ∧ ∃ t:Nat → Value,ax = ⟨#[(Value.agg #[.int .u8 ↑op,.int .u32 ↑a,.int .u32 ↑b,.int .i64 n,.slice A m c]),(.pointer (some ⟨w.heap.size,0,none⟩)),(.bool false),(.int .u8 F),t 4,t 5,t 6,t 7,t 8,t 9,t 10,t 11,t 12,t 13,t 14,t 15,t 16,t 17,(.bool p1),undef,undef,undef,undef,undef,undef,undef,undef,undef,undef,undef,undef,undef,undef,undef,undef,undef,undef,undef,undef,undef,undef,undef,undef,undef,undef,undef,undef,undef,undef,undef,undef,undef,undef,undef,undef,undef,undef,undef,undef,undef,undef,undef,undef,undef,undef,undef,undef,undef,undef,undef,undef,undef,undef],[]⟩) 12 _ _ _ ?_ ?_
 ·dsimp only [List.take]
  have HP:=H1
  obtain rfl:=H1.out
  cases k
  ·go_wp2_with (first | (go_at_call 124;refine (HKN.out _).mono ?_;rintro e w' ⟨rfl,rfl⟩) | (go_at_call 125;refine (HHA.out _).mono ?_;rintro e w' ⟨rfl,rfl⟩) | (go_at_call 126;refine (HBL.out _).mono ?_;rintro e w' ⟨rfl,rfl⟩))
   all_goals (first | exact ⟨rfl,rfl,cutFin rfl⟩ | (rename_i hx _;simp [undef] at hx))
  ·cases ha0:((a:Int) == 0)
   ·cases ha
    all_goals (go_wp2_with (first | (go_at_call 124;refine (HKN.out _).mono ?_;rintro e w' ⟨rfl,rfl⟩) | (go_at_call 125;refine (HHA.out _).mono ?_;rintro e w' ⟨rfl,rfl⟩) | (go_at_call 126;refine (HBL.out _).mono ?_;rintro e w' ⟨rfl,rfl⟩));all_goals (first | exact ⟨rfl,rfl,cutFin rfl⟩ | (rename_i hx _;simp [undef] at hx)))
   ·go_wp2_with (first | (go_at_call 124;refine (HKN.out _).mono ?_;rintro e w' ⟨rfl,rfl⟩) | (go_at_call 125;refine (HHA.out _).mono ?_;rintro e w' ⟨rfl,rfl⟩) | (go_at_call 126;refine (HBL.out _).mono ?_;rintro e w' ⟨rfl,rfl⟩))
    all_goals (first | exact ⟨rfl,rfl,cutFin rfl⟩ | (rename_i hx _;simp [undef] at hx))
 intro ax wx hx
 obtain ⟨rfl,t,rfl⟩:=hx
 dsimp only [List.drop]
 refine bd (fun (ax:Act) (wx:World)=>wx = (w.alloc (.cells #[.int .u8 ↑op,.int .u32 ↑a,.int .u32 ↑b,.int .i64 n,.slice A m c] 56)) ∧ ∃ t:Nat → Value,ax = ⟨#[(Value.agg #[.int .u8 ↑op,.int .u32 ↑a,.int .u32 ↑b,.int .i64 n,.slice A m c]),(.pointer (some ⟨w.heap.size,0,none⟩)),(.bool false),(.int .u8 F),t 4,t 5,t 6,t 7,t 8,t 9,t 10,t 11,t 12,t 13,t 14,t 15,t 16,t 17,t 18,t 19,t 20,t 21,t 22,t 23,t 24,t 25,t 26,(.bool p2),undef,undef,undef,undef,undef,undef,undef,undef,undef,undef,undef,undef,undef,undef,undef,undef,undef,undef,undef,undef,undef,undef,undef,undef,undef,undef,undef,undef,undef,undef,undef,undef,undef,undef,undef,undef,undef,undef,undef,undef,undef,undef,undef,undef,undef],[]⟩) 9 _ _ _ ?_ ?_
 ·dsimp only [List.take]
  obtain rfl:=H2.out
  cases p1
  ·go_wp2_with (first | (go_at_call 124;refine (HKN.out _).mono ?_;rintro e w' ⟨rfl,rfl⟩) | (go_at_call 125;refine (HHA.out _).mono ?_;rintro e w' ⟨rfl,rfl⟩) | (go_at_call 126;refine (HBL.out _).mono ?_;rintro e w' ⟨rfl,rfl⟩))
   all_goals (first | exact ⟨rfl,rfl,cutFin rfl⟩ | (rename_i hx _;simp [undef] at hx))
  ·skip
   cases ht0:((b:Int) == 0)
   rotate_left
   ·go_wp2_with (first | (go_at_call 124;refine (HKN.out _).mono ?_;rintro e w' ⟨rfl,rfl⟩) | (go_at_call 125;refine (HHA.out _).mono ?_;rintro e w' ⟨rfl,rfl⟩) | (go_at_call 126;refine (HBL.out _).mono ?_;rintro e w' ⟨rfl,rfl⟩))
    all_goals (first | exact ⟨rfl,rfl,cutFin rfl⟩ | (rename_i hx _;simp [undef] at hx))
   cases ht1:(F == 6)
   rotate_left
   ·go_wp2_with (first | (go_at_call 124;refine (HKN.out _).mono ?_;rintro e w' ⟨rfl,rfl⟩) | (go_at_call 125;refine (HHA.out _).mono ?_;rintro e w' ⟨rfl,rfl⟩) | (go_at_call 126;refine (HBL.out _).mono ?_;rintro e w' ⟨rfl,rfl⟩))
    all_goals (first | exact ⟨rfl,rfl,cutFin rfl⟩ | (rename_i hx _;simp [undef] at hx))
   go_wp2_with (first | (go_at_call 124;refine (HKN.out _).mono ?_;rintro e w' ⟨rfl,rfl⟩) | (go_at_call 125;refine (HHA.out _).mono ?_;rintro e w' ⟨rfl,rfl⟩) | (go_at_call 126;refine (HBL.out _).mono ?_;rintro e w' ⟨rfl,rfl⟩))
   all_goals (first | exact ⟨rfl,rfl,cutFin rfl⟩ | (rename_i hx _;simp [undef] at hx))
 intro ax wx hx
 obtain ⟨rfl,t,rfl⟩:=hx
 dsimp only [List.drop]
 refine bd (fun (ax:Act) (wx:World)=>wx = (w.alloc (.cells #[.int .u8 ↑op,.int .u32 ↑a,.int .u32 ↑b,.int .i64 n,.slice A m c] 56)) ∧ ∃ t:Nat → Value,ax = ⟨#[(Value.agg #[.int .u8 ↑op,.int .u32 ↑a,.int .u32 ↑b,.int .i64 n,.slice A m c]),(.pointer (some ⟨w.heap.size,0,none⟩)),(.bool false),(.int .u8 F),t 4,t 5,t 6,t 7,t 8,t 9,t 10,t 11,t 12,t 13,t 14,t 15,t 16,t 17,t 18,t 19,t 20,t 21,t 22,t 23,t 24,t 25,t 26,t 27,t 28,t 29,t 30,t 31,t 32,t 33,t 34,t 35,t 36,t 37,t 38,t 39,(.bool p3),undef,undef,undef,undef,undef,undef,undef,undef,undef,undef,undef,undef,undef,undef,undef,undef,undef,undef,undef,undef,undef,undef,undef,undef,undef,undef,undef,undef,undef,undef,undef,undef],[]⟩) 13 _ _ _ ?_ ?_
 ·dsimp only [List.take]
  obtain rfl:=H3.out
  cases p2
  ·go_wp2_with (first | (go_at_call 124;refine (HKN.out _).mono ?_;rintro e w' ⟨rfl,rfl⟩) | (go_at_call 125;refine (HHA.out _).mono ?_;rintro e w' ⟨rfl,rfl⟩) | (go_at_call 126;refine (HBL.out _).mono ?_;rintro e w' ⟨rfl,rfl⟩))
   all_goals (first | exact ⟨rfl,rfl,cutFin rfl⟩ | (rename_i hx _;simp [undef] at hx))
  ·skip
   cases ht0:(n == 0)
   rotate_left
   ·go_wp2_with (first | (go_at_call 124;refine (HKN.out _).mono ?_;rintro e w' ⟨rfl,rfl⟩) | (go_at_call 125;refine (HHA.out _).mono ?_;rintro e w' ⟨rfl,rfl⟩) | (go_at_call 126;refine (HBL.out _).mono ?_;rintro e w' ⟨rfl,rfl⟩))
    all_goals (first | exact ⟨rfl,rfl,cutFin rfl⟩ | (rename_i hx _;simp [undef] at hx))
   cases ht1:(F == 8)
   rotate_left
   ·go_wp2_with (first | (go_at_call 124;refine (HKN.out _).mono ?_;rintro e w' ⟨rfl,rfl⟩) | (go_at_call 125;refine (HHA.out _).mono ?_;rintro e w' ⟨rfl,rfl⟩) | (go_at_call 126;refine (HBL.out _).mono ?_;rintro e w' ⟨rfl,rfl⟩))
    all_goals (first | exact ⟨rfl,rfl,cutFin rfl⟩ | (rename_i hx _;simp [undef] at hx))
   cases ht2:(F == 9)
   rotate_left
   ·go_wp2_with (first | (go_at_call 124;refine (HKN.out _).mono ?_;rintro e w' ⟨rfl,rfl⟩) | (go_at_call 125;refine (HHA.out _).mono ?_;rintro e w' ⟨rfl,rfl⟩) | (go_at_call 126;refine (HBL.out _).mono ?_;rintro e w' ⟨rfl,rfl⟩))
    all_goals (first | exact ⟨rfl,rfl,cutFin rfl⟩ | (rename_i hx _;simp [undef] at hx))
   go_wp2_with (first | (go_at_call 124;refine (HKN.out _).mono ?_;rintro e w' ⟨rfl,rfl⟩) | (go_at_call 125;refine (HHA.out _).mono ?_;rintro e w' ⟨rfl,rfl⟩) | (go_at_call 126;refine (HBL.out _).mono ?_;rintro e w' ⟨rfl,rfl⟩))
   all_goals (first | exact ⟨rfl,rfl,cutFin rfl⟩ | (rename_i hx _;simp [undef] at hx))
 intro ax wx hx
 obtain ⟨rfl,t,rfl⟩:=hx
 dsimp only [List.drop]
 refine bd (fun (ax:Act) (wx:World)=>wx = (w.alloc (.cells #[.int .u8 ↑op,.int .u32 ↑a,.int .u32 ↑b,.int .i64 n,.slice A m c] 56)) ∧ ∃ t:Nat → Value,ax = ⟨#[(Value.agg #[.int .u8 ↑op,.int .u32 ↑a,.int .u32 ↑b,.int .i64 n,.slice A m c]),(.pointer (some ⟨w.heap.size,0,none⟩)),(.bool false),(.int .u8 F),t 4,t 5,t 6,t 7,t 8,t 9,t 10,t 11,t 12,t 13,t 14,t 15,t 16,t 17,t 18,t 19,t 20,t 21,t 22,t 23,t 24,t 25,t 26,t 27,t 28,t 29,t 30,t 31,t 32,t 33,t 34,t 35,t 36,t 37,t 38,t 39,t 40,t 41,t 42,t 43,t 44,t 45,t 46,t 47,t 48,t 49,(.bool p4),undef,undef,undef,undef,undef,undef,undef,undef,undef,undef,undef,undef,undef,undef,undef,undef,undef,undef,undef,undef,undef,undef],[]⟩) 10 _ _ _ ?_ ?_
 ·dsimp only [List.take]
  obtain rfl:=H4.out
  cases p3
  ·go_wp2_with (first | (go_at_call 124;refine (HKN.out _).mono ?_;rintro e w' ⟨rfl,rfl⟩) | (go_at_call 125;refine (HHA.out _).mono ?_;rintro e w' ⟨rfl,rfl⟩) | (go_at_call 126;refine (HBL.out _).mono ?_;rintro e w' ⟨rfl,rfl⟩))
   all_goals (first | exact ⟨rfl,rfl,cutFin rfl⟩ | (rename_i hx _;simp [undef] at hx))
  ·skip
   cases ht0:((m:Int) == 0)
   rotate_left
   ·go_wp2_with (first | (go_at_call 124;refine (HKN.out _).mono ?_;rintro e w' ⟨rfl,rfl⟩) | (go_at_call 125;refine (HHA.out _).mono ?_;rintro e w' ⟨rfl,rfl⟩) | (go_at_call 126;refine (HBL.out _).mono ?_;rintro e w' ⟨rfl,rfl⟩))
    all_goals (first | exact ⟨rfl,rfl,cutFin rfl⟩ | (rename_i hx _;simp [undef] at hx))
   cases ht1:(F == 3)
   rotate_left
   ·go_wp2_with (first | (go_at_call 124;refine (HKN.out _).mono ?_;rintro e w' ⟨rfl,rfl⟩) | (go_at_call 125;refine (HHA.out _).mono ?_;rintro e w' ⟨rfl,rfl⟩) | (go_at_call 126;refine (HBL.out _).mono ?_;rintro e w' ⟨rfl,rfl⟩))
    all_goals (first | exact ⟨rfl,rfl,cutFin rfl⟩ | (rename_i hx _;simp [undef] at hx))
   go_wp2_with (first | (go_at_call 124;refine (HKN.out _).mono ?_;rintro e w' ⟨rfl,rfl⟩) | (go_at_call 125;refine (HHA.out _).mono ?_;rintro e w' ⟨rfl,rfl⟩) | (go_at_call 126;refine (HBL.out _).mono ?_;rintro e w' ⟨rfl,rfl⟩))
   all_goals (first | exact ⟨rfl,rfl,cutFin rfl⟩ | (rename_i hx _;simp [undef] at hx))
 intro ax wx hx
 obtain ⟨rfl,t,rfl⟩:=hx
 dsimp only [List.drop]
 refine bd (fun (ax:Act) (wx:World)=>wx = (w.alloc (.cells #[.int .u8 ↑op,.int .u32 ↑a,.int .u32 ↑b,.int .i64 n,.slice A m c] 56)) ∧ ∃ t:Nat → Value,ax = ⟨#[(Value.agg #[.int .u8 ↑op,.int .u32 ↑a,.int .u32 ↑b,.int .i64 n,.slice A m c]),(.pointer (some ⟨w.heap.size,0,none⟩)),(.bool false),(.int .u8 F),t 4,t 5,t 6,t 7,t 8,t 9,t 10,t 11,t 12,t 13,t 14,t 15,t 16,t 17,t 18,t 19,t 20,t 21,t 22,t 23,t 24,t 25,t 26,t 27,t 28,t 29,t 30,t 31,t 32,t 33,t 34,t 35,t 36,t 37,t 38,t 39,t 40,t 41,t 42,t 43,t 44,t 45,t 46,t 47,t 48,t 49,t 50,t 51,t 52,t 53,t 54,t 55,t 56,t 57,t 58,(.bool p5),undef,undef,undef,undef,undef,undef,undef,undef,undef,undef,undef,undef,undef],[]⟩) 9 _ _ _ ?_ ?_
 ·dsimp only [List.take]
  obtain rfl:=H5.out
  cases p4
  ·go_wp2_with (first | (go_at_call 124;refine (HKN.out _).mono ?_;rintro e w' ⟨rfl,rfl⟩) | (go_at_call 125;refine (HHA.out _).mono ?_;rintro e w' ⟨rfl,rfl⟩) | (go_at_call 126;refine (HBL.out _).mono ?_;rintro e w' ⟨rfl,rfl⟩))
   all_goals (first | exact ⟨rfl,rfl,cutFin rfl⟩ | (rename_i hx _;simp [undef] at hx))
  ·skip
   cases ht0:(F != 1)
   rotate_left
   ·go_wp2_with (first | (go_at_call 124;refine (HKN.out _).mono ?_;rintro e w' ⟨rfl,rfl⟩) | (go_at_call 125;refine (HHA.out _).mono ?_;rintro e w' ⟨rfl,rfl⟩) | (go_at_call 126;refine (HBL.out _).mono ?_;rintro e w' ⟨rfl,rfl⟩))
    all_goals (first | exact ⟨rfl,rfl,cutFin rfl⟩ | (rename_i hx _;simp [undef] at hx))
   cases ht1:bl
   rotate_left
   ·go_wp2_with (first | (go_at_call 124;refine (HKN.out _).mono ?_;rintro e w' ⟨rfl,rfl⟩) | (go_at_call 125;refine (HHA.out _).mono ?_;rintro e w' ⟨rfl,rfl⟩) | (go_at_call 126;refine (HBL.out _).mono ?_;rintro e w' ⟨rfl,rfl⟩))
    all_goals (first | exact ⟨rfl,rfl,cutFin rfl⟩ | (rename_i hx _;simp [undef] at hx))
   go_wp2_with (first | (go_at_call 124;refine (HKN.out _).mono ?_;rintro e w' ⟨rfl,rfl⟩) | (go_at_call 125;refine (HHA.out _).mono ?_;rintro e w' ⟨rfl,rfl⟩) | (go_at_call 126;refine (HBL.out _).mono ?_;rintro e w' ⟨rfl,rfl⟩))
   all_goals (first | exact ⟨rfl,rfl,cutFin rfl⟩ | (rename_i hx _;simp [undef] at hx))
 intro ax wx hx
 obtain ⟨rfl,t,rfl⟩:=hx
 dsimp only [List.drop]
 obtain rfl:=H6.out
 cases p5
 ·go_wp2_with (first | (go_at_call 124;refine (HKN.out _).mono ?_;rintro e w' ⟨rfl,rfl⟩) | (go_at_call 125;refine (HHA.out _).mono ?_;rintro e w' ⟨rfl,rfl⟩) | (go_at_call 126;refine (HBL.out _).mono ?_;rintro e w' ⟨rfl,rfl⟩))
  go_ret
  exact ⟨rfl,bA⟩
 ·cases ht0:(F != 8)
  rotate_left
  ·go_wp2_with (first | (go_at_call 124;refine (HKN.out _).mono ?_;rintro e w' ⟨rfl,rfl⟩) | (go_at_call 125;refine (HHA.out _).mono ?_;rintro e w' ⟨rfl,rfl⟩) | (go_at_call 126;refine (HBL.out _).mono ?_;rintro e w' ⟨rfl,rfl⟩))
   go_ret
   exact ⟨rfl,bA⟩
  go_wp2_with (first | (go_at_call 124;refine (HKN.out _).mono ?_;rintro e w' ⟨rfl,rfl⟩) | (go_at_call 125;refine (HHA.out _).mono ?_;rintro e w' ⟨rfl,rfl⟩) | (go_at_call 126;refine (HBL.out _).mono ?_;rintro e w' ⟨rfl,rfl⟩))
  go_ret
  exact ⟨rfl,bA⟩
theorem wrap32_in (n:Int) (h0:-9223372036854775808 ≤ n) (h1:n ≤ 9223372036854775807):(n == wrap64 (wrap32 n)) = Ins.in32 n:=by
 unfold Ins.in32
 have e:wrap32 n = (n + 2147483648) % 4294967296 - 2147483648:=by unfold wrap32;omega
 rw [Bool.eq_iff_iff,IntWalk.wrap64_in _ (by rw [e];omega),e]
 simp
 omega
theorem fits_any (x:I) (A:Option Addr) (c:Nat) (w:World) (hw:x.wf):Calls Tryz.prog 95 #[insVal x A c] w fun e w'=>e = .returned (.bool (may x)) ∧ Below w.heap.size w w':=by
 obtain ⟨op,a,b,n,l⟩:=x
 obtain ⟨h1,h2,h3,h4,h5,h6⟩:=hw
 have h:=fits_at op a b n l.length A c w (Opc.form op) (Opc.known op) (Ins.hasA (Opc.form op)) (Ins.blockB a) _ _ _ _ _ _ (J (aT _)) (J (dI _)) (J (hasA_any _)) (J (block_any a)) (J rfl) (J rfl) (J rfl) (J rfl) (J rfl) (J rfl)
 have e:may ⟨op,a,b,n,l⟩ = (((((Opc.known op && ((a:Int) == 0 || Ins.hasA (Opc.form op))) && ((b:Int) == 0 || Opc.form op == 6)) && (n == 0 || Opc.form op == 8 || Opc.form op == 9)) && ((l.length:Int) == 0 || Opc.form op == 3)) && (Opc.form op != 1 || Ins.blockB a) && (Opc.form op != 8 || n == wrap64 (wrap32 n))):=by
  have e1:((a:Int) == 0) = (a == 0):=by rw [Bool.eq_iff_iff];simp
  have e2:((b:Int) == 0) = (b == 0):=by rw [Bool.eq_iff_iff];simp
  have e3:((l.length:Int) == 0) = l.isEmpty:=by cases l <;> simp;omega
  rw [wrap32_in n h4 h5,e1,e2,e3]
  simp only [may,mayF,Bool.and_assoc,Bool.or_assoc]
 rw [e]
 exact h
end Go.Proofs.YtmpelmihdpomjaaGreat
