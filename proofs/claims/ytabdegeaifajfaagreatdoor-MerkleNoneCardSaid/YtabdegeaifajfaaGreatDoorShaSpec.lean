/- What the sha package reckons, as plain functions on lists of natural numbers: no program, no memory. -/
namespace Go.Proofs.YtabdegeaifajfaaGreatDoor.Sha

def M : Nat := 18446744073709551616

/-- turned right -/
def rr (x n : Nat) : Nat := (x <<< (64 - n)) % 18446744073709551616 ||| x >>> n
def bs1 (e : Nat) : Nat := rr e 14 ^^^ rr e 18 ^^^ rr e 41
def bs0 (a : Nat) : Nat := rr a 28 ^^^ rr a 34 ^^^ rr a 39
def ss0 (x : Nat) : Nat := rr x 1 ^^^ rr x 8 ^^^ x >>> 7
def ss1 (x : Nat) : Nat := rr x 19 ^^^ rr x 61 ^^^ x >>> 6
def ch (x y z : Nat) : Nat := (x &&& y) ^^^ ((18446744073709551615 - x) &&& z)
def mj (x y z : Nat) : Nat := ((x &&& y) ^^^ (x &&& z)) ^^^ (y &&& z)

def H0 : List Nat := [7640891576956012808, 13503953896175478587, 4354685564936845355, 11912009170470909681,
   5840696475078001361, 11170449401992604703, 2270897969802886507, 6620516959819538809]
def K : List Nat := [4794697086780616226, 8158064640168781261, 13096744586834688815, 16840607885511220156,
   4131703408338449720, 6480981068601479193, 10538285296894168987, 12329834152419229976,
   15566598209576043074, 1334009975649890238, 2608012711638119052, 6128411473006802146,
   8268148722764581231, 9286055187155687089, 11230858885718282805, 13951009754708518548,
   16472876342353939154, 17275323862435702243, 1135362057144423861, 2597628984639134821,
   3308224258029322869, 5365058923640841347, 6679025012923562964, 8573033837759648693,
   10970295158949994411, 12119686244451234320, 12683024718118986047, 13788192230050041572,
   14330467153632333762, 15395433587784984357, 489312712824947311, 1452737877330783856,
   2861767655752347644, 3322285676063803686, 5560940570517711597, 5996557281743188959,
   7280758554555802590, 8532644243296465576, 9350256976987008742, 10552545826968843579,
   11727347734174303076, 12113106623233404929, 14000437183269869457, 14369950271660146224,
   15101387698204529176, 15463397548674623760, 17586052441742319658, 1182934255886127544,
   1847814050463011016, 2177327727835720531, 2830643537854262169, 3796741975233480872,
   4115178125766777443, 5681478168544905931, 6601373596472566643, 7507060721942968483,
   8399075790359081724, 8693463985226723168, 9568029438360202098, 10144078919501101548,
   10430055236837252648, 11840083180663258601, 13761210420658862357, 14299343276471374635,
   14566680578165727644, 15097957966210449927, 16922976911328602910, 17689382322260857208,
   500013540394364858, 748580250866718886, 1242879168328830382, 1977374033974150939,
   2944078676154940804, 3659926193048069267, 4368137639120453308, 4836135668995329356,
   5532061633213252278, 6448918945643986474, 6902733635092675308, 7801388544844847127]


/-- the eight words -/
structure S where
  a : Nat
  b : Nat
  c : Nat
  d : Nat
  e : Nat
  f : Nat
  g : Nat
  h : Nat

def word (b0 b1 b2 b3 b4 b5 b6 b7 : Nat) : Nat :=
  (((((((b0 <<< 56) ||| (b1 <<< 48)) ||| (b2 <<< 40)) ||| (b3 <<< 32)) ||| (b4 <<< 24)) ||| (b5 <<< 16)) ||| (b6 <<< 8)) ||| b7
/-- the word at place i of bytes -/
def wordAt (l : List Nat) (i : Nat) : Nat :=
  word (l.getD i 0) (l.getD (i + 1) 0) (l.getD (i + 2) 0) (l.getD (i + 3) 0) (l.getD (i + 4) 0) (l.getD (i + 5) 0) (l.getD (i + 6) 0) (l.getD (i + 7) 0)
def more (r : List Nat) (t : Nat) : Nat :=
  (ss1 (r.getD (t - 2) 0) + r.getD (t - 7) 0 + ss0 (r.getD (t - 15) 0) + r.getD (t - 16) 0) % 18446744073709551616
/-- the first t words of a block's eighty -/
def row (blk : List Nat) : Nat → List Nat
  | 0 => []
  | t + 1 => row blk t ++ [if t < 16 then wordAt blk (8 * t) else more (row blk t) t]

def rnd (k w : Nat) (s : S) : S :=
  ⟨((s.h + bs1 s.e + ch s.e s.f s.g + k + w) % 18446744073709551616 + (bs0 s.a + mj s.a s.b s.c) % 18446744073709551616) % 18446744073709551616, s.a, s.b, s.c,
   (s.d + (s.h + bs1 s.e + ch s.e s.f s.g + k + w) % 18446744073709551616) % 18446744073709551616, s.e, s.f, s.g⟩
def rnds (ws : List Nat) (s : S) : Nat → S
  | 0 => s
  | t + 1 => rnd (K.getD t 0) (ws.getD t 0) (rnds ws s t)
def plus (s t : S) : S :=
  ⟨(s.a + t.a) % 18446744073709551616, (s.b + t.b) % 18446744073709551616, (s.c + t.c) % 18446744073709551616, (s.d + t.d) % 18446744073709551616,
   (s.e + t.e) % 18446744073709551616, (s.f + t.f) % 18446744073709551616, (s.g + t.g) % 18446744073709551616, (s.h + t.h) % 18446744073709551616⟩
/-- a block turns the eight words -/
def turn (s : S) (blk : List Nat) : S := plus s (rnds (row blk 80) s 80)
def first : S := ⟨7640891576956012808, 13503953896175478587, 4354685564936845355, 11912009170470909681, 5840696475078001361, 11170449401992604703, 2270897969802886507, 6620516959819538809⟩
/-- the words behind the first n blocks of a text -/
def blocks (l : List Nat) : Nat → S
  | 0 => first
  | n + 1 => turn (blocks l n) ((l.drop (128 * n)).take 128)
def byte (w i : Nat) : Nat := (w >>> (56 - 8 * i)) % 256
def wbytes (w : Nat) : List Nat := [byte w 0, byte w 1, byte w 2, byte w 3, byte w 4, byte w 5, byte w 6, byte w 7]
def S.list (s : S) : List Nat := [s.a, s.b, s.c, s.d, s.e, s.f, s.g, s.h]
def S.bytes (s : S) : List Nat := s.list.flatMap wbytes
/-- how many bytes the tail has behind n bytes -/
def tailLen (n : Nat) : Nat := if 128 - n % 128 < 17 then 256 - n % 128 else 128 - n % 128
def tail (n : Nat) : List Nat :=
  128 :: List.replicate (tailLen n - 17) 0 ++ wbytes (n >>> 61) ++ wbytes ((n <<< 3) % 18446744073709551616)
def whole (l : List Nat) : List Nat := l ++ tail l.length
def sum (l : List Nat) : List Nat := (blocks (whole l) ((whole l).length / 128)).bytes

/-! to reckon with numbers -/
def force {α : Type} (n : Nat) (f : Nat → α) : α := match n with | 0 => f 0 | k + 1 => f (k + 1)
theorem force_eq {α : Type} (n : Nat) (f : Nat → α) : force n f = f n := by cases n <;> rfl
def forceL {α : Type} : List Nat → (List Nat → α) → α
  | [], f => f []
  | x :: xs, f => force x fun x => forceL xs fun xs => f (x :: xs)
theorem forceL_eq {α : Type} (l : List Nat) (f : List Nat → α) : forceL l f = f l := by
  induction l generalizing f with
  | nil => rfl
  | cons x xs ih => simp only [forceL, force_eq, ih]
def forceS {α : Type} (s : S) (f : S → α) : α :=
  force s.a fun a => force s.b fun b => force s.c fun c => force s.d fun d => force s.e fun e => force s.f fun f' => force s.g fun g => force s.h fun h => f ⟨a, b, c, d, e, f', g, h⟩
theorem forceS_eq {α : Type} (s : S) (f : S → α) : forceS s f = f s := by simp only [forceS, force_eq]
def rowE (blk : List Nat) : Nat → List Nat
  | 0 => []
  | t + 1 => forceL (rowE blk t) fun r => force (if t < 16 then wordAt blk (8 * t) else more r t) fun x => r ++ [x]
theorem rowE_eq (blk : List Nat) (t : Nat) : rowE blk t = row blk t := by
  induction t with
  | zero => rfl
  | succ t ih => simp only [rowE, row, forceL_eq, force_eq, ih]
def rndsE (ws : List Nat) (s : S) : Nat → S
  | 0 => s
  | t + 1 => forceS (rndsE ws s t) fun s => rnd (K.getD t 0) (ws.getD t 0) s
theorem rndsE_eq (ws : List Nat) (s : S) (t : Nat) : rndsE ws s t = rnds ws s t := by
  induction t with
  | zero => rfl
  | succ t ih => simp only [rndsE, rnds, forceS_eq, ih]
def turnE (s : S) (blk : List Nat) : S := forceL (rowE blk 80) fun ws => forceS (rndsE ws s 80) fun r => plus s r
theorem turnE_eq (s : S) (blk : List Nat) : turnE s blk = turn s blk := by simp only [turnE, turn, forceL_eq, forceS_eq, rowE_eq, rndsE_eq]
theorem sum_one (l : List Nat) (h : (whole l).length = 128) : sum l = (turnE first ((whole l).take 128)).bytes := by
  unfold sum; rw [h, turnE_eq]; rfl
theorem sum_empty : (sum []).take 4 = [207, 131, 225, 53] := by rw [sum_one _ (by decide +kernel)]; decide +kernel
theorem sum_abc : (sum [97, 98, 99]).take 4 = [221, 175, 53, 161] := by rw [sum_one _ (by decide +kernel)]; decide +kernel
end Go.Proofs.YtabdegeaifajfaaGreatDoor.Sha
